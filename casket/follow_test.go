package casket

import (
	"math/rand"
	"slices"
	"strconv"
	"strings"
	"testing"

	"casket/api"
	"casket/frame"
	"casket/index"
	"casket/leak"
	"casket/path"
	"casket/seal"
	"casket/sim"
)

func someConfig(r *rand.Rand) api.Config {
	if r.Intn(3) == 0 {
		return six()
	}
	return api.Config{Slots: 1 + r.Intn(4), Files: 1 + r.Intn(4), Dirs: r.Intn(3), MaxFile: r.Intn(80), Least: 16 + r.Intn(20), Page: 64 + r.Intn(500)}
}

func oneOf[T any](r *rand.Rand, l ...T) T { return l[r.Intn(len(l))] }

// somePath is as a rule one of a few, so that operations meet.
func somePath(r *rand.Rand) string {
	if r.Intn(15) == 0 {
		return oneOf(r, "", "a", "/a/", "//", "/a/./b", "/"+strings.Repeat("n", 33), strings.Repeat("/a", 17), "/f/f")
	}
	return oneOf(r, "/", "/a", "/a", "/f", "/f", "/f", "/f", "/g", "/g", "/a/f", "/a/f", "/b", "/a/b", "/a/b/f")
}

func someOp(r *rand.Rand, c api.Config) api.Op {
	op := api.Op{Kind: 1 + r.Intn(10), Path: somePath(r)}
	if r.Intn(2) == 0 {
		op.Kind = oneOf(r, api.OpMkdir, api.OpCreate, api.OpCreate, api.OpRead, api.OpWrite, api.OpWrite)
	}
	if r.Intn(40) == 0 {
		op.Kind = oneOf(r, -1, 0, 11)
	}
	switch op.Kind {
	case api.OpRead:
		op.At, op.N = r.Intn(c.MaxFile+3)-1, r.Intn(c.MaxFile+3)-1
	case api.OpWrite:
		op.At, op.Data = r.Intn(c.MaxFile+3)-1, someBytes(r.Intn(c.MaxFile+2))
		switch r.Intn(4) {
		case 0, 1:
			op.At = 0
		case 2:
			op.At, op.Data = op.At/4, op.Data[:len(op.Data)/8]
		}
	case api.OpCut:
		op.N = r.Intn(c.MaxFile+3) - 1
	case api.OpRename:
		op.To = somePath(r)
	}
	return op
}

func someOps(r *rand.Rand, c api.Config, count int) []api.Op {
	var ops []api.Op
	for range count {
		ops = append(ops, someOp(r, c))
	}
	return ops
}

// someEdit is of a put that a short script may have done.
func someEdit(r *rand.Rand) api.Edit {
	e := api.Edit{Before: r.Intn(14), Kind: 1 + r.Intn(6), Put: r.Intn(40), From: r.Intn(40), Name: "more", Blob: oneOf(r, "", "x", someBytes(56))}
	if r.Intn(10) == 0 {
		e.Before, e.Kind = oneOf(r, -1, 3, 1<<41), oneOf(r, 0, 7, 2)
	}
	if r.Intn(4) == 0 {
		e.Name = api.RootName
	}
	return e
}

func someAct(r *rand.Rand, c api.Config, honest bool) api.Act {
	switch r.Intn(24) {
	case 0:
		return actOf(api.ActFormat)
	case 1, 2, 3:
		return actOf(api.ActRecover)
	case 4, 5:
		return fuseOf(r.Intn(30) - 1)
	case 6, 7, 8:
		return actOf(api.ActPower)
	case 9:
		return batchOf(someOps(r, c, c.Slots+1+r.Intn(2))...)
	case 10:
		if honest {
			return batchOf()
		}
		return editOf(someEdit(r))
	case 11:
		return actOf(oneOf(r, 0, 7, 1, 2))
	}
	return batchOf(someOps(r, c, r.Intn(c.Slots+1))...)
}

// someScript begins with a vault, as a rule; where it is lost it is soon taken up again.
func someScript(r *rand.Rand, c api.Config, n int, honest bool) []api.Act {
	var acts []api.Act
	if r.Intn(4) > 0 {
		acts = append(acts, actOf(api.ActFormat), actOf(api.ActRecover))
	}
	for range n {
		a := someAct(r, c, honest)
		acts = append(acts, a)
		if a.Kind == api.ActFuse && r.Intn(3) > 0 {
			acts = append(acts, batchOf(someOps(r, c, c.Slots)...), actOf(api.ActPower))
		}
		if acts[len(acts)-1].Kind == api.ActPower && r.Intn(3) > 0 {
			acts = append(acts, actOf(api.ActRecover))
		}
	}
	return acts
}

// follower is a machine that New made, and what the document says may become of it. Act by act it is held against that.
type follower struct {
	t    *testing.T
	p    api.Play
	m    *Machine
	acts []api.Act

	fused    bool // there was an ActFuse
	edited   bool // there was an ActEdit: from then on the store need not be honest
	waits    int  // an edit is planned for a store call below this number
	tampered bool // ErrTampered was answered

	tried  bool // a Format was done, or broken off
	broken bool // behind that a Recover was broken off: it may have made the Format's vault count
	// What a Recover may find: what all acknowledged batches have come to, and behind that the one that was broken off. None:
	// it is not sure that there is a vault.
	may   []*model
	vault vaultIs

	count map[string]int // what was met
}

type vaultIs int

const (
	isNone vaultIs = iota
	isAlive
	isDead
	isTampered
)

func follow(t *testing.T, p api.Play) *follower {
	t.Helper()
	return &follower{t: t, p: p, m: mustNew(t, p), count: map[string]int{}}
}

func (f *follower) fail(a api.Act, x api.Answer, why string) {
	f.t.Helper()
	f.t.Fatalf("%s: act %d, %+v, was answered %+v\nof %+v", why, len(f.acts), a, x, f.p.Config)
}

// do does an act, and looks at all that is promised of it.
func (f *follower) do(a api.Act) api.Answer {
	f.t.Helper()
	was, register, trace := f.m.Look(), f.m.Register(), f.m.Trace()
	x := f.m.Do(a)
	f.acts = append(f.acts, a)
	is, now := f.m.Look(), f.m.Trace()
	calls := now[min(len(trace), len(now)):]
	if !sameCalls(now[:len(now)-len(calls)], trace) {
		f.fail(a, x, "the trace behind it is another one")
	}
	if (x.Code != api.OK || a.Kind != api.ActBatch) && len(x.Results) > 0 {
		f.fail(a, x, "results")
	}
	silent := len(calls) == 0 && f.m.Register() == register && is.Left == was.Left
	switch a.Kind {
	case api.ActFormat:
		f.format(a, x, was, silent)
	case api.ActRecover:
		f.takeUp(a, x, was, silent)
	case api.ActBatch:
		f.batch(a, x, was, calls, silent)
	default:
		f.other(a, x, was, silent)
	}
	f.reasons(a, x, was)
	if is.Alive != (f.vault == isAlive) {
		f.fail(a, x, "Alive")
	}
	f.count[met(a.Kind, x.Code)]++
	return x
}

// met is how an act and its code are counted.
func met(kind int, code api.Errno) string {
	words := map[int]string{api.ActFormat: "format", api.ActRecover: "recover", api.ActBatch: "batch", api.ActFuse: "fuse", api.ActPower: "power", api.ActEdit: "edit"}
	return words[kind] + " " + strconv.Itoa(int(code))
}

func (f *follower) other(a api.Act, x api.Answer, was api.View, silent bool) {
	f.t.Helper()
	want := api.ErrStep
	switch a.Kind {
	case api.ActFuse:
		want = api.OK
		if was.Down {
			want = api.ErrDown
		} else {
			f.fused = true
		}
	case api.ActPower:
		want, f.vault = api.OK, isNone
		if f.m.Look().Down {
			f.fail(a, x, "the power is off")
		}
	case api.ActEdit:
		want = api.OK
		e := a.Edit
		if e.Before < 0 || e.Before > 1<<40 || e.Kind < 1 || e.Kind > 6 {
			want = api.ErrEdit
		} else {
			f.edited, f.waits = true, max(f.waits, e.Before+was.Calls+1)
		}
	}
	if x.Code != want || !silent {
		f.fail(a, x, "want the code "+strconv.Itoa(int(want))+", without a call")
	}
}

func (f *follower) format(a api.Act, x api.Answer, was api.View, silent bool) {
	f.t.Helper()
	mayBe := []api.Errno{api.OK, api.ErrEntropy}
	if f.fused {
		mayBe = append(mayBe, api.ErrDown)
	}
	if f.broken {
		mayBe = append(mayBe, api.ErrVault)
	}
	switch {
	case was.Down:
		mayBe = []api.Errno{api.ErrDown}
	case f.tampered:
		mayBe = []api.Errno{api.ErrTampered}
	case len(f.may) > 0:
		mayBe = []api.Errno{api.ErrVault}
	}
	if !slices.Contains(mayBe, x.Code) || (len(mayBe) == 1 || x.Code == api.ErrVault) && !silent {
		f.fail(a, x, "a Format")
	}
	switch x.Code {
	case api.OK:
		f.tried, f.may = true, []*model{newModel(f.p.Config)}
	case api.ErrVault:
		if len(f.may) == 0 {
			f.may = []*model{newModel(f.p.Config)}
		}
	case api.ErrDown:
		f.tried = f.tried || !was.Down
	}
}

func (f *follower) takeUp(a api.Act, x api.Answer, was api.View, silent bool) {
	f.t.Helper()
	mayBe := []api.Errno{api.OK}
	if f.fused {
		mayBe = append(mayBe, api.ErrDown)
	}
	if f.edited {
		mayBe = append(mayBe, api.ErrTampered)
	}
	if len(f.may) == 0 {
		mayBe = append(mayBe, api.ErrBlank)
	}
	switch {
	case was.Down:
		mayBe = []api.Errno{api.ErrDown}
	case f.tampered:
		mayBe = []api.Errno{api.ErrTampered}
	case !f.tried:
		mayBe = []api.Errno{api.ErrBlank}
	}
	if !slices.Contains(mayBe, x.Code) || len(mayBe) == 1 && mayBe[0] != api.OK && !silent || f.m.Look().Left != was.Left {
		f.fail(a, x, "a Recover")
	}
	f.vault = isNone
	switch x.Code {
	case api.OK:
		f.tookUp(a, x)
	case api.ErrTampered:
		f.tampered = true
	case api.ErrDown:
		f.broken = f.broken || f.tried && !was.Down
	}
}

// tookUp is P23.7's last words of a store that is honest, and which of the models was found.
func (f *follower) tookUp(a api.Act, x api.Answer) {
	f.t.Helper()
	f.vault = isAlive
	if len(f.may) == 0 {
		f.may = []*model{newModel(f.p.Config)}
	}
	if f.edited {
		return
	}
	c := f.p.Config
	m, _ := index.Pages(c)
	if n := f.m.Look().Stored; n != c.Files+c.Slots+m+1 {
		f.fail(a, x, "a store of another size")
	}
	if f.m.Look().Down {
		return
	}
	held := held(f.t, f.twin())
	i := slices.IndexFunc(f.may, held.same)
	if i < 0 {
		f.fail(a, x, "the vault is no model that may be")
	}
	if len(f.may) > 1 && !f.may[0].same(f.may[1]) {
		f.count[[]string{"nothing of the batch", "all of the batch"}[i]]++
	}
	f.may = f.may[i : i+1]
}

func (f *follower) batch(a api.Act, x api.Answer, was api.View, calls []api.Call, silent bool) {
	f.t.Helper()
	var mayBe []api.Errno
	switch {
	case f.vault == isNone || f.vault == isDead:
		mayBe = []api.Errno{api.ErrDead}
	case f.vault == isTampered:
		mayBe = []api.Errno{api.ErrTampered}
	case len(a.Ops) > f.p.Config.Slots:
		mayBe = []api.Errno{api.ErrBatch}
	case was.Down:
		mayBe = []api.Errno{api.ErrDown, api.ErrEntropy}
	default:
		mayBe = []api.Errno{api.OK, api.ErrEntropy}
		if f.fused {
			mayBe = append(mayBe, api.ErrDown)
		}
		if f.edited {
			mayBe = append(mayBe, api.ErrTampered)
		}
	}
	if !slices.Contains(mayBe, x.Code) || len(mayBe) == 1 && !silent {
		f.fail(a, x, "a batch")
	}
	switch {
	case len(mayBe) == 1:
	case x.Code == api.OK:
		f.shape(a, x, calls)
		f.acknowledged(a, x)
	case x.Code == api.ErrEntropy:
		if len(calls) > 0 || f.m.Look().Left != 0 {
			f.fail(a, x, "a call, or a tape that is not dry")
		}
	case x.Code == api.ErrDown:
		f.vault = isDead
		f.brokenOff(a)
	case x.Code == api.ErrTampered:
		f.vault, f.tampered = isTampered, true
	}
}

// acknowledged keeps the models that say the same.
func (f *follower) acknowledged(a api.Act, x api.Answer) {
	f.t.Helper()
	var left []*model
	for _, m := range f.may {
		next := m.copy()
		if sameResults(next.batch(a.Ops), x.Results) {
			left = append(left, next)
		}
	}
	if len(left) == 0 {
		f.fail(a, x, "no model says that")
	}
	f.may = left
}

func (f *follower) brokenOff(a api.Act) {
	for _, m := range slices.Clone(f.may) {
		next := m.copy()
		next.batch(a.Ops)
		f.may = append(f.may, next)
	}
	if !f.edited && len(f.may) > 2 {
		f.t.Fatal("more than one batch is open")
	}
}

// shape is P23.11.
func (f *follower) shape(a api.Act, x api.Answer, calls []api.Call) {
	f.t.Helper()
	c := f.p.Config
	m, _ := index.Pages(c)
	if letters(calls) != strings.Repeat("G", c.Slots)+strings.Repeat("P", c.Slots+m)+"P*"+strings.Repeat("D", c.Slots+m) {
		f.fail(a, x, "the calls "+letters(calls))
	}
	trace := f.m.Trace()
	there := map[string]int{} // of the index: what was put, and not deleted
	for _, call := range trace[:len(trace)-len(calls)] {
		switch call.Kind {
		case api.CallPut:
			there[call.Name]++
		case api.CallDelete:
			delete(there, call.Name)
		}
	}
	for i, call := range calls[c.Slots : 2*c.Slots+m] {
		if there[call.Name] > 0 {
			f.fail(a, x, "a name that is not new")
		}
		there[call.Name]++
		if i >= c.Slots && len(call.Blob) != c.Page+seal.Overhead {
			f.fail(a, x, "a page of another size")
		}
	}
	if !slices.ContainsFunc(f.may, func(m *model) bool { return areOf(calls[c.Slots:2*c.Slots], m.sizes(a.Ops), c) }) {
		f.fail(a, x, "an object of another size")
	}
	if root := calls[2*c.Slots+m]; len(root.Blob) != 5+27+32*m+seal.Overhead {
		f.fail(a, x, "a root of another size")
	}
}

// areOf is whether puts are of as many bytes as contents of these sizes ask for.
func areOf(puts []api.Call, sizes []int, c api.Config) bool {
	return slices.EqualFunc(puts, sizes, func(put api.Call, n int) bool {
		bucket, _ := frame.Size(n, c.Least)
		return len(put.Blob) == bucket+seal.Overhead
	})
}

// reasons is P23.13, as far as nothing above has said it.
func (f *follower) reasons(a api.Act, x api.Answer, was api.View) {
	f.t.Helper()
	switch x.Code {
	case api.ErrDown:
		if !f.fused || !f.m.Look().Down {
			f.fail(a, x, "ErrDown without a cause")
		}
	case api.ErrEntropy:
		if asked := f.asked(a); was.Left >= asked {
			f.fail(a, x, "ErrEntropy, and the tape had enough")
		}
	case api.ErrTampered:
		if !f.edited || !differs(f.m.Trace()) {
			f.fail(a, x, "ErrTampered without a cause")
		}
	case api.ErrBlank:
		if len(f.may) > 0 {
			f.fail(a, x, "ErrBlank behind a vault")
		}
	}
}

// asked is how many bytes of the tape a Format or a batch draws, of a tape in which no sixteen bytes come twice.
func (f *follower) asked(a api.Act) int {
	c := f.p.Config
	if a.Kind == api.ActFormat {
		return f.drawn(make([]int, c.Files+c.Slots))
	}
	most := 0
	for _, m := range f.may {
		most = max(most, f.drawn(m.sizes(a.Ops)))
	}
	return most
}

// drawn is the bytes for objects with contents of these sizes, for the pages and for the root.
func (f *follower) drawn(sizes []int) int {
	c := f.p.Config
	m, _ := index.Pages(c)
	texts := append(slices.Repeat([]int{c.Page}, m), 5+27+32*m)
	for _, n := range sizes {
		bucket, _ := frame.Size(n, c.Least)
		texts = append(texts, bucket)
	}
	sum := 16 * (len(sizes) + m)
	for _, n := range texts {
		if f.p.Ideal {
			sum += n + 40
		} else {
			sum += 24
		}
	}
	return sum
}

var twinTape = someBytes(1 << 17)

// twin is a machine of what lies there, with a tape of its own, whose vault was taken up. Where the store is not honest it
// may be that there is none.
func (f *follower) twin() *Machine {
	f.t.Helper()
	p := f.p
	p.Tape = twinTape
	m := mustLoad(f.t, p, f.m.Store(), f.m.Register(), f.m.Table())
	if x := m.Do(actOf(api.ActRecover)); x.Code != api.OK && !f.edited {
		f.t.Fatalf("Recover of what lies there: %d", x.Code)
	}
	return m
}

// held is all that a machine's vault holds, read batch by batch.
func held(t *testing.T, m *Machine) *model {
	t.Helper()
	all := newModel(api.Config{})
	one := func(op api.Op) api.Result {
		x := m.Do(batchOf(op))
		if x.Code != api.OK || len(x.Results) != 1 || x.Results[0].Code != api.OK {
			t.Fatalf("Do(%+v): %+v", op, x)
		}
		return x.Results[0]
	}
	for dirs := []string{"/"}; len(dirs) > 0; dirs = dirs[1:] {
		for _, name := range one(list(dirs[0])).Names {
			p := strings.TrimSuffix(dirs[0], "/") + "/" + name
			switch is := one(stat(p)); is.Kind {
			case api.IsDir:
				all.at[p] = thing{dir: true}
				dirs = append(dirs, p)
			default:
				all.at[p] = thing{data: one(read(p, is.Size+1)).Data}
				if len(all.at[p].data) != is.Size {
					t.Fatalf("%s has %d bytes, and %d were read", p, is.Size, len(all.at[p].data))
				}
			}
		}
	}
	return all
}

// differs is whether some Get had another answer than what was put there last, or some List lacked a name that was put and
// not deleted.
func differs(trace []api.Call) bool {
	put := map[string]string{}
	for _, c := range trace {
		switch c.Kind {
		case api.CallGet:
			blob, there := put[c.Name]
			if there != (c.Code == api.OK) || blob != c.Reply {
				return true
			}
		case api.CallPut:
			put[c.Name] = c.Blob
		case api.CallDelete:
			delete(put, c.Name)
		case api.CallList:
			for name := range put {
				if !slices.Contains(c.Names, name) {
					return true
				}
			}
		}
	}
	return false
}

// end is P23.8, of all that was done.
func (f *follower) end() {
	f.t.Helper()
	if !f.p.Ideal {
		return
	}
	o, e := leak.Of(f.p.Config, f.acts)
	if e != api.OK {
		f.t.Fatalf("leak.Of: %d", e)
	}
	calls, e := sim.Run(o, f.p.Config, f.p.Tape)
	if e != api.OK || !sameCalls(calls, f.m.Trace()) {
		f.t.Fatalf("sim.Run: %d, %d calls, want the machine's %d", e, len(calls), len(f.m.Trace()))
	}
}

func (f *follower) doAll(acts []api.Act) {
	f.t.Helper()
	for _, a := range acts {
		f.do(a)
	}
	f.end()
}

// wantMet is whether a test has met what it is there for.
func wantMet(t *testing.T, count map[string]int, words ...string) {
	t.Helper()
	for _, w := range words {
		if count[w] == 0 {
			t.Errorf("%q was never met: %v", w, count)
		}
	}
}

func addTo(sum, count map[string]int) {
	for w, n := range count {
		sum[w] += n
	}
}

// P23.6

func TestRefinement(t *testing.T) {
	bothSealers(t, func(t *testing.T, ideal bool) {
		met, done := map[api.Errno]int{}, map[int]int{}
		for seed := range int64(60) {
			r := rand.New(rand.NewSource(seed))
			c := someConfig(r)
			f := follow(t, playOf(c, ideal, someBytes(200000)))
			f.do(actOf(api.ActFormat))
			f.do(actOf(api.ActRecover))
			m := newModel(c)
			for range 40 {
				a := batchOf(someOps(r, c, oneOf(r, c.Slots, r.Intn(c.Slots+2)))...)
				x := f.do(a)
				if len(a.Ops) > c.Slots {
					if x.Code != api.ErrBatch {
						t.Fatalf("a batch of too many operations: %d", x.Code)
					}
					continue
				}
				if want := m.batch(a.Ops); x.Code != api.OK || !sameResults(x.Results, want) {
					t.Fatalf("seed %d: %+v: %+v, want %+v", seed, a.Ops, x, want)
				}
				for i, result := range x.Results {
					met[result.Code]++
					if result.Code == api.OK {
						done[a.Ops[i].Kind]++
					}
				}
			}
			if !held(t, f.twin()).same(m) {
				t.Fatalf("seed %d: the vault is not the model", seed)
			}
			f.end()
		}
		if len(met) < 14 || len(done) != 10 {
			t.Errorf("operations answered %v alone, and of the kinds %v alone OK", met, done)
		}
	})
}

// TestEveryErrorOfAnOperation is a batch of one operation for each of them.
func TestEveryErrorOfAnOperation(t *testing.T) {
	bothSealers(t, func(t *testing.T, ideal bool) {
		m := made(t, ideal)
		for _, op := range []api.Op{mkdir("/d"), create("/f"), mkdir("/d/e"), create("/d/f")} {
			if x := m.Do(batchOf(op)); x.Code != api.OK || x.Results[0].Code != api.OK {
				t.Fatalf("%+v: %+v", op, x)
			}
		}
		sixteen := strings.Repeat("/n", 16)
		for _, x := range []struct {
			op   api.Op
			want api.Errno
		}{
			{api.Op{Kind: 11, Path: "/"}, api.ErrOp},
			{stat(""), api.ErrPath},
			{stat("/."), api.ErrName},
			{stat(sixteen + "/n"), api.ErrDepth},
			{stat(sixteen), api.ErrAbsent},
			{rename("/f", "x"), api.ErrPath},
			{api.Op{Kind: api.OpRead, Path: "/f", At: -1}, api.ErrArg},
			{api.Op{Kind: api.OpRmdir, Path: "/"}, api.ErrArg},
			{create("/f/g"), api.ErrNotDir},
			{create("/d"), api.ErrThere},
			{mkdir("/x"), api.ErrRoom},
			{read("/d", 1), api.ErrIsDir},
			{write("/f", strings.Repeat("x", 101)), api.ErrBig},
			{api.Op{Kind: api.OpRmdir, Path: "/d"}, api.ErrFilled},
			{rename("/d", "/d/e/x"), api.ErrLoop},
			{rename("/f", "/f"), api.OK},
			{write("/f", strings.Repeat("x", 100)), api.OK},
		} {
			if is := m.Do(batchOf(x.op)); is.Code != api.OK || len(is.Results) != 1 || is.Results[0].Code != x.want {
				t.Errorf("%+v: %+v, want %d", x.op, is, x.want)
			}
		}
	})
}

// TestDryTapes is P23.6 where the tape runs out, at each length around those at which a Format or a batch is done.
func TestDryTapes(t *testing.T) {
	bothSealers(t, func(t *testing.T, ideal bool) {
		format, batch := formatBytes, batchBytes
		if !ideal {
			format, batch = 7*16+8*24, 4*16+5*24
		}
		for _, n := range []int{0, 1, 15, 16, format - 1, format, format + 1, format + batch - 1, format + batch, format + 3*batch - 1, format + 3*batch} {
			f := follow(t, playOf(six(), ideal, someBytes(n)))
			want := api.OK
			if n < format {
				want = api.ErrEntropy
			}
			if x := f.do(actOf(api.ActFormat)); x.Code != want {
				t.Fatalf("%d bytes: Format: %d, want %d", n, x.Code, want)
			}
			if n < format {
				if v := f.m.Look(); v != (api.View{}) {
					t.Errorf("behind a Format of a dry tape: %+v", v)
				}
				f.do(actOf(api.ActRecover))
				f.end()
				continue
			}
			f.do(actOf(api.ActRecover))
			for i := range 5 {
				want := api.OK
				if n < format+(i+1)*batch {
					want = api.ErrEntropy
				}
				if x := f.do(batchOf(stat("/"))); x.Code != want {
					t.Errorf("%d bytes: the batch %d: %d, want %d", n, i, x.Code, want)
				}
			}
			if x := f.do(batchOf(stat("/"), stat("/"), stat("/"))); x.Code != api.ErrBatch {
				t.Errorf("too many operations, with a dry tape: %d", x.Code)
			}
			if x := f.do(actOf(api.ActRecover)); x.Code != api.OK {
				t.Errorf("Recover with a dry tape: %d", x.Code)
			}
			f.end()
		}
	})
}

// P23.7

// TestEveryFuse cuts a script off ahead of every call, takes it up again with a second fuse, and a third one, and looks
// what is there.
func TestEveryFuse(t *testing.T) {
	ops := []api.Op{write("/f", "new text"), rename("/g", "/a/g")}
	for first := range 17 {
		for second := -1; second < 14; second++ {
			f := follow(t, playOf(six(), first%2 == 0, longTape))
			for _, a := range []api.Act{
				actOf(api.ActFormat), actOf(api.ActRecover), batchOf(create("/f"), write("/f", "the old text")), batchOf(mkdir("/a"), create("/g")),
				fuseOf(first), batchOf(ops...), batchOf(), actOf(api.ActPower),
				fuseOf(second), actOf(api.ActRecover), actOf(api.ActRecover), batchOf(read("/f", 99), list("/a")), actOf(api.ActPower),
				fuseOf(13 - second), actOf(api.ActRecover), actOf(api.ActFormat), actOf(api.ActPower), actOf(api.ActRecover),
				batchOf(read("/f", 99), list("/a")), batchOf(ops...),
			} {
				f.do(a)
			}
			if !f.m.Look().Alive {
				t.Fatalf("fuses %d, %d: no vault", first, second)
			}
			f.end()
		}
	}
}

// TestEveryFuseOfAFormat cuts a Format off, and the Recovers and Formats behind it.
func TestEveryFuseOfAFormat(t *testing.T) {
	sum := map[string]int{}
	for first := range 13 {
		for second := -1; second < 24; second++ {
			f := follow(t, playOf(six(), second%2 == 0, longTape))
			for _, a := range []api.Act{
				fuseOf(first), actOf(api.ActFormat), actOf(api.ActPower),
				fuseOf(second), actOf(api.ActRecover), actOf(api.ActFormat), actOf(api.ActFormat), actOf(api.ActPower),
				fuseOf(20 - second), actOf(api.ActFormat), actOf(api.ActRecover), actOf(api.ActPower),
				actOf(api.ActRecover), actOf(api.ActFormat), actOf(api.ActRecover), batchOf(list("/"), mkdir("/a")),
			} {
				f.do(a)
			}
			if !f.m.Look().Alive {
				t.Fatalf("fuses %d, %d: no vault", first, second)
			}
			f.end()
			addTo(sum, f.count)
		}
	}
	wantMet(t, sum, "format 0", "format 100", "format 172", "recover 0", "recover 171", "recover 100", "batch 0")
}

func TestCrashesAtRandom(t *testing.T) {
	bothSealers(t, func(t *testing.T, ideal bool) {
		sum := map[string]int{}
		for seed := range int64(120) {
			r := rand.New(rand.NewSource(seed))
			c := someConfig(r)
			f := follow(t, playOf(c, ideal, someBytes(2000+r.Intn(60000))))
			f.doAll(someScript(r, c, 40, true))
			addTo(sum, f.count)
		}
		wantMet(t, sum, "format 0", "format 100", "format 172", "recover 0", "recover 171", "recover 100", "batch 0", "batch 100", "batch 180", "batch 150", "batch 10",
			"nothing of the batch", "all of the batch")
	})
}

// P23.8 is what follow's end says of every script of this file.

func TestTheTraceSaysNoMoreThanTheHints(t *testing.T) {
	sum := map[string]int{}
	for seed := range int64(200) {
		r := rand.New(rand.NewSource(seed))
		c := someConfig(r)
		f := follow(t, playOf(c, true, someBytes(r.Intn(30000))))
		f.doAll(someScript(r, c, 30, r.Intn(3) == 0))
		addTo(sum, f.count)
	}
	wantMet(t, sum, "format 0", "format 172", "recover 0", "recover 170", "batch 0", "batch 100", "batch 170", "batch 10", "edit 0")
}

// TestTheTraceOfWeakTapes is of tapes in which names and coins come more than once.
func TestTheTraceOfWeakTapes(t *testing.T) {
	for seed := range int64(100) {
		r := rand.New(rand.NewSource(seed))
		c := someConfig(r)
		few := someBytes(16 * (40 + r.Intn(100)))
		var tape strings.Builder
		for range 1000 {
			at := 16 * r.Intn(len(few)/16)
			tape.WriteString(few[at : at+16])
		}
		p, acts := playOf(c, true, tape.String()), someScript(r, c, 20, false)
		m := mustNew(t, p)
		for _, a := range acts {
			m.Do(a)
		}
		o, _ := leak.Of(c, acts)
		if calls, e := sim.Run(o, c, p.Tape); e != api.OK || !sameCalls(calls, m.Trace()) {
			t.Fatalf("seed %d: sim.Run: %d, %d calls, want the machine's %d", seed, e, len(calls), len(m.Trace()))
		}
	}
}

// P23.10

// TestAnOlderBlobOfTheSameName hands in a tape that gives a name once more that no row has any more, and puts back what was
// under it first: it was sealed under just this name.
func TestAnOlderBlobOfTheSameName(t *testing.T) {
	bothSealers(t, func(t *testing.T, ideal bool) {
		format, batch := formatBytes, batchBytes
		if !ideal {
			format, batch = 7*16+8*24, 4*16+5*24
		}
		bytes := someBytes(20000)
		f := follow(t, playOf(six(), ideal, bytes[:format+batch]+bytes[:16]+bytes[format+batch:]))
		for _, a := range []api.Act{actOf(api.ActFormat), actOf(api.ActRecover), batchOf(), batchOf()} {
			f.do(a)
		}
		if puts := f.m.Trace(); puts[1].Name != bytes[:16] || puts[13+11+2].Name != bytes[:16] {
			t.Fatal("the name was not drawn again")
		}
		f.do(putEdit(api.EditReplay, 0, 0))
		for i, want := range []api.Errno{api.OK, api.ErrTampered} { // of the rows 4 and 0, and of 1 and 2
			if x := f.do(batchOf()); x.Code != want {
				t.Errorf("the batch %d behind the edit: %d, want %d", i, x.Code, want)
			}
		}
		f.end()
	})
}

// TestEveryEdit changes the store, in every way and of every object, ahead of each store call of a Recover and a batch.
func TestEveryEdit(t *testing.T) {
	sum := map[string]int{}
	for kind := api.EditSet; kind <= api.EditAdd; kind++ {
		for put := range 8 + 2*5 {
			for _, before := range []int{0, 1, 3, 4, 5, 6, 9, 10, 12, 14, 15} {
				e := api.Edit{Before: before, Kind: kind, Put: put, From: (put*7 + before) % 18, Name: "more", Blob: "x"}
				if kind == api.EditRestore {
					e.From = 9 + put
				}
				f := follow(t, playOf(six(), true, longTape))
				f.doAll([]api.Act{
					actOf(api.ActFormat), actOf(api.ActRecover), batchOf(create("/f"), write("/f", "text")), batchOf(mkdir("/a"), create("/g")),
					editOf(e), actOf(api.ActRecover), batchOf(read("/f", 9), write("/g", "x")), batchOf(list("/"), stat("/f")),
					actOf(api.ActRecover), actOf(api.ActFormat), batchOf(read("/g", 9), read("/f", 9)), batchOf(), batchOf(),
					actOf(api.ActPower), batchOf(), actOf(api.ActFormat), actOf(api.ActRecover), batchOf(list("/")),
				})
				addTo(sum, f.count)
			}
		}
	}
	wantMet(t, sum, "recover 0", "recover 170", "batch 0", "batch 170", "batch 180", "format 172", "format 170")
}

// TestEditsOfAFormat changes the store while a vault is made, ahead of the first acknowledged Format too.
func TestEditsOfAFormat(t *testing.T) {
	sum := map[string]int{}
	for kind := api.EditSet; kind <= api.EditAdd; kind++ {
		for before := range 14 {
			for _, fuse := range []int{-1, 9, 10, 11, 13} {
				e := api.Edit{Before: before, Kind: kind, Put: 7 - before%3, From: before % 8, Name: oneOf(rand.New(rand.NewSource(int64(before))), "more", api.RootName), Blob: "x"}
				f := follow(t, playOf(six(), true, longTape))
				f.doAll([]api.Act{
					editOf(e), fuseOf(fuse), actOf(api.ActFormat), actOf(api.ActPower), actOf(api.ActRecover), actOf(api.ActFormat),
					batchOf(mkdir("/a"), create("/a/f")), actOf(api.ActRecover), batchOf(list("/a"), stat("/a/f")), actOf(api.ActFormat), actOf(api.ActRecover),
				})
				addTo(sum, f.count)
			}
		}
	}
	wantMet(t, sum, "format 0", "format 100", "format 172", "recover 0", "recover 171", "recover 170", "batch 0", "batch 180")
}

func TestTamperingAtRandom(t *testing.T) {
	sum := map[string]int{}
	for seed := range int64(300) {
		r := rand.New(rand.NewSource(seed))
		c := someConfig(r)
		f := follow(t, playOf(c, true, someBytes(5000+r.Intn(30000))))
		f.doAll(someScript(r, c, 40, false))
		addTo(sum, f.count)
	}
	wantMet(t, sum, "format 0", "format 170", "recover 0", "recover 170", "recover 100", "batch 0", "batch 170", "batch 100", "batch 180")
}

// TestTamperingOfARealSealer is what is said over the ideal one, where nobody lays what is sealed rightly and by another one.
func TestTamperingOfARealSealer(t *testing.T) {
	sum := map[string]int{}
	for seed := range int64(60) {
		r := rand.New(rand.NewSource(seed))
		c := someConfig(r)
		f := follow(t, playOf(c, false, someBytes(5000+r.Intn(30000))))
		f.doAll(someScript(r, c, 30, false))
		addTo(sum, f.count)
	}
	wantMet(t, sum, "recover 170", "batch 0", "batch 170")
}

// TestRestoredStores puts each older store back, whole.
func TestRestoredStores(t *testing.T) {
	bothSealers(t, func(t *testing.T, ideal bool) {
		for back := 1; back <= 35; back++ {
			f := follow(t, playOf(six(), ideal, longTape))
			for _, a := range []api.Act{actOf(api.ActFormat), actOf(api.ActRecover), batchOf(create("/f")), batchOf(write("/f", "text"))} {
				f.do(a)
			}
			f.do(editOf(api.Edit{Kind: api.EditRestore, From: 35 - back}))
			// Behind the root's Put the store has all that the vault has; the Deletes leave nothing behind that says more.
			want := api.ErrTampered
			if back <= 4 {
				want = api.OK
			}
			if x := f.do(actOf(api.ActRecover)); x.Code != want {
				t.Errorf("the store of %d calls ago: Recover %d, want %d", back, x.Code, want)
			}
			f.do(batchOf(read("/f", 9)))
			f.end()
		}
	})
}

// P23.11

// TestSizesHangOnTheHints has two batches of which hints are equal, and nothing else.
func TestSizesHangOnTheHints(t *testing.T) {
	bothSealers(t, func(t *testing.T, ideal bool) {
		sizes := func(ops ...api.Op) []int {
			m := made(t, ideal)
			wantCode(t, m, batchOf(create("/f"), create("/g")), api.OK)
			from := m.Look().Calls
			wantCode(t, m, batchOf(ops...), api.OK)
			var list []int
			for _, c := range m.Trace()[from:] {
				if c.Kind == api.CallPut {
					list = append(list, len(c.Blob))
				}
			}
			return list
		}
		least := sizes()
		if want := []int{56, 56, 296, 296, 136}; !slices.Equal(least, want) {
			t.Errorf("the sizes of an empty batch: %v, want %v", least, want)
		}
		for _, ops := range [][]api.Op{{mkdir("/a"), stat("/")}, {write("/f", "eleven byte"), remove("/g")}, {read("/g", 5)}} {
			if is := sizes(ops...); !slices.Equal(is, least) {
				t.Errorf("%+v: the sizes %v, want %v", ops, is, least)
			}
		}
		// A slot's bucket is of the bytes and the five ahead of them.
		if is, want := sizes(write("/f", strings.Repeat("x", 12)), write("/g", strings.Repeat("x", 95))), []int{58, 144, 296, 296, 136}; !slices.Equal(is, want) {
			t.Errorf("the sizes of 12 and 95 bytes: %v, want %v", is, want)
		}
	})
}

// TestNamesAreNew hands in a tape that gives names once more: those that are in the index, and those that were drawn already.
func TestNamesAreNew(t *testing.T) {
	tape := someBytes(formatBytes)
	fresh := someBytes(20000)
	again := tape[:16] + tape[6*16:7*16] + fresh[:16] + fresh[:16] + tape[4*16:5*16] + fresh[16:]
	f := follow(t, playOf(six(), true, tape+again))
	for _, a := range []api.Act{actOf(api.ActFormat), actOf(api.ActRecover)} {
		f.do(a)
	}
	left := f.m.Look().Left
	if x := f.do(batchOf(create("/f"))); x.Code != api.OK { // follow looks at the names
		t.Fatalf("a batch: %d", x.Code)
	}
	if drew := left - f.m.Look().Left; drew != batchBytes+4*16 {
		t.Errorf("the batch drew %d bytes, want four names more than %d", drew, batchBytes)
	}
	f.doAll([]api.Act{batchOf(write("/f", "x")), actOf(api.ActRecover), batchOf(read("/f", 9))})
}

// P23.12

// TestNothingButWhatLiesThereCounts takes a machine's Store, Register and Table up, at every place of many scripts.
func TestNothingButWhatLiesThereCounts(t *testing.T) {
	codes := map[api.Errno]int{}
	for seed := range int64(150) {
		r := rand.New(rand.NewSource(seed))
		c := someConfig(r)
		f := follow(t, playOf(c, seed%2 == 0, someBytes(30000)))
		for _, a := range someScript(r, c, 15, seed%3 == 0) {
			f.do(a)
			if f.m.Look().Down || f.waits > f.m.Look().Calls {
				continue
			}
			f.do(fuseOf(-1)) // no fuse is set
			p := f.p
			p.Tape = twinTape
			twin := mustLoad(t, p, f.m.Store(), f.m.Register(), f.m.Table())
			want, is := f.do(actOf(api.ActRecover)), twin.Do(actOf(api.ActRecover))
			if !sameAnswer(is, want) {
				t.Fatalf("seed %d: Recover of what lies there: %+v, want %+v", seed, is, want)
			}
			codes[want.Code]++
			for range 3 {
				b := batchOf(someOps(r, c, r.Intn(c.Slots+2))...)
				want, is := f.do(b), twin.Do(b)
				if want.Code == api.ErrEntropy {
					break
				}
				if !sameAnswer(is, want) {
					t.Fatalf("seed %d: %+v of what lies there: %+v, want %+v", seed, b, is, want)
				}
				codes[want.Code]++
			}
		}
	}
	for _, e := range []api.Errno{api.OK, api.ErrBlank, api.ErrTampered, api.ErrBatch, api.ErrDead} {
		if codes[e] == 0 {
			t.Errorf("%d was never met: %v", e, codes)
		}
	}
}

func TestLoadGoesOnFromAnOpenBatch(t *testing.T) {
	bothSealers(t, func(t *testing.T, ideal bool) {
		for fuse, want := range map[int]int{7: 0, 8: 1, 9: 1} {
			m := made(t, ideal)
			m.Do(fuseOf(fuse))
			wantCode(t, m, batchOf(mkdir("/a")), api.ErrDown)
			p := playOf(six(), ideal, someBytes(5000))
			x := mustLoad(t, p, m.Store(), m.Register(), m.Table())
			if v := x.Look(); v != (api.View{Left: 5000, Stored: m.Look().Stored}) {
				t.Errorf("Look behind Load: %+v", v)
			}
			wantCode(t, x, actOf(api.ActRecover), api.OK)
			if y := x.Do(batchOf(list("/"))); y.Code != api.OK || len(y.Results[0].Names) != want {
				t.Errorf("fuse %d: List: %+v, want %d names", fuse, y, want)
			}
		}
	})
}

// TestLoadOfAnother is of a machine whose configuration, key or table is another one.
func TestLoadOfAnother(t *testing.T) {
	for _, ideal := range []bool{true, false} {
		m := made(t, ideal)
		other := playOf(six(), ideal, longTape)
		other.Config.Least = 17
		x := mustLoad(t, other, m.Store(), m.Register(), m.Table())
		wantCode(t, x, actOf(api.ActRecover), api.ErrConfig)
		wantCode(t, x, actOf(api.ActFormat), api.ErrVault)
		other = playOf(six(), ideal, longTape)
		if !ideal {
			other.Master = strings.Repeat("l", 32)
		}
		wantCode(t, mustLoad(t, other, m.Store(), m.Register(), nil), actOf(api.ActRecover), api.ErrTampered)
	}
}

// P23.13 is what follow says of every script of this file; here is what it asks for, cause by cause.

func TestReasons(t *testing.T) {
	// Objects that are only added are no cause: those of a batch's names, too, which are got rid of by Recover.
	m := made(t, true)
	for before := range 11 {
		e := api.Edit{Before: before, Kind: api.EditAdd, Name: "more" + string(rune('a'+before)), Blob: someBytes(before)}
		wantCode(t, m, editOf(e), api.OK)
	}
	wantCode(t, m, batchOf(create("/f"), write("/f", "x")), api.OK)
	wantCode(t, m, actOf(api.ActRecover), api.OK)
	if n := m.Look().Stored; n != objects {
		t.Errorf("behind Recover the store has %d objects, want %d", n, objects)
	}
	// A blob that is put back ahead of the Get that asks for it is none.
	m = made(t, true)
	wantCode(t, m, putEdit(api.EditDrop, 1, 0), api.OK)
	wantCode(t, m, putEdit(api.EditReplay, 1, 1), api.OK)
	wantCode(t, m, batchOf(), api.OK)
	// Nor is one that nobody asks for again.
	m = made(t, true)
	wantCode(t, m, batchOf(), api.OK)
	wantCode(t, m, editOf(api.Edit{Kind: api.EditSet, Put: 0, Blob: "x"}), api.OK) // the batch has deleted it
	wantCode(t, m, batchOf(), api.OK)
	wantCode(t, m, actOf(api.ActRecover), api.OK)
	// A name that lacks is found by List alone, if nothing else asks for it.
	m = made(t, true)
	wantCode(t, m, putEdit(api.EditDrop, 4, 0), api.OK)
	wantCode(t, m, batchOf(), api.OK)
	wantCode(t, m, actOf(api.ActRecover), api.ErrTampered)
	if !differs(m.Trace()) {
		t.Error("a List that lacks a name was not told")
	}
}

func TestErrVaultBehindARecoverThatWasBrokenOff(t *testing.T) {
	m := mustNew(t, playOf(six(), true, longTape))
	m.Do(fuseOf(11)) // the Format's root is put, and its Commit is not done
	wantCode(t, m, actOf(api.ActFormat), api.ErrDown)
	m.Do(actOf(api.ActPower))
	m.Do(fuseOf(5)) // the Recover's Commit is done, and its List is not
	wantCode(t, m, actOf(api.ActRecover), api.ErrDown)
	m.Do(actOf(api.ActPower))
	wantNoCall(t, m, actOf(api.ActFormat), api.ErrVault)
	wantCode(t, m, actOf(api.ActRecover), api.OK)
}

// TestDeepPaths is of directories that are moved as deep as may be, and one name deeper.
func TestDeepPaths(t *testing.T) {
	c := api.Config{Slots: 1, Files: 1, Dirs: 20, MaxFile: 10, Least: 16, Page: 512}
	f := follow(t, playOf(c, true, someBytes(200000)))
	f.do(actOf(api.ActFormat))
	f.do(actOf(api.ActRecover))
	deep := ""
	for range 14 {
		deep += "/n"
		f.do(batchOf(mkdir(deep)))
	}
	for _, op := range []api.Op{mkdir("/x"), mkdir("/x/y"), create("/x/y/z"), rename("/x", deep+"/x"), rename("/x/y", deep+"/x"), rename("/x/y", "/y"), read(deep+"/x/z", 1)} {
		if x := f.do(batchOf(op)); x.Code != api.OK {
			t.Fatalf("%+v: %+v", op, x)
		}
	}
	if names, e := path.Parse(deep + "/x/z"); e != api.OK || len(names) != api.MaxDepth {
		t.Errorf("a path of %d names, %d", len(names), e)
	}
	if !held(t, f.twin()).same(f.may[0]) {
		t.Error("the vault is not the model")
	}
	f.end()
}
