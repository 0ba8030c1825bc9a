package leak

import (
	"fmt"
	"math"
	"math/rand"
	"reflect"
	"slices"
	"strings"
	"sync"
	"testing"

	"casket/api"
	"casket/commit"
	"casket/frame"
	"casket/path"
	"casket/seal"
	"casket/tape"
	"casket/tree"
	"casket/world"
)

// small is the configuration of the chapter's examples.
func small() api.Config {
	return api.Config{Slots: 3, Files: 2, Dirs: 2, MaxFile: 100, Least: 16, Page: 64}
}

// greatest has room for as much as may be.
func greatest() api.Config {
	return api.Config{Slots: 64, Files: 65536, Dirs: 4096, MaxFile: 65536, Least: 65536, Page: 65536}
}

func mkdir(path string) api.Op       { return api.Op{Kind: api.OpMkdir, Path: path} }
func create(path string) api.Op      { return api.Op{Kind: api.OpCreate, Path: path} }
func remove(path string) api.Op      { return api.Op{Kind: api.OpRemove, Path: path} }
func stat(path string) api.Op        { return api.Op{Kind: api.OpStat, Path: path} }
func list(path string) api.Op        { return api.Op{Kind: api.OpList, Path: path} }
func read(path string, n int) api.Op { return api.Op{Kind: api.OpRead, Path: path, N: n} }
func cut(path string, n int) api.Op  { return api.Op{Kind: api.OpCut, Path: path, N: n} }
func rename(path, to string) api.Op  { return api.Op{Kind: api.OpRename, Path: path, To: to} }

func write(path string, n int) api.Op {
	return api.Op{Kind: api.OpWrite, Path: path, Data: strings.Repeat("x", n)}
}

// F, B and R are the chapter's acts.
func F() api.Act                  { return api.Act{Kind: api.ActFormat} }
func R() api.Act                  { return api.Act{Kind: api.ActRecover} }
func B(ops ...api.Op) api.Act     { return api.Act{Kind: api.ActBatch, Ops: ops} }
func actOf(kind int) api.Act      { return api.Act{Kind: kind} }
func acts(a ...api.Act) []api.Act { return a }

func mustOf(t *testing.T, c api.Config, a ...api.Act) *Oracle {
	t.Helper()
	o, e := Of(c, a)
	if o == nil || e != api.OK {
		t.Fatalf("Of: %v, %d", o, e)
	}
	return o
}

func sameHint(a, b api.Hint) bool {
	return a.Kind == b.Kind && a.I == b.I && a.Edit == b.Edit && slices.Equal(a.Touches, b.Touches)
}

func wantHint(t *testing.T, o *Oracle, want api.Hint) {
	t.Helper()
	if h, more := o.Next(); !more || !sameHint(h, want) {
		t.Fatalf("Next: %+v, %v, want %+v", h, more, want)
	}
}

func wantKind(t *testing.T, o *Oracle, kind int) {
	t.Helper()
	wantHint(t, o, api.Hint{Kind: kind})
}

// wantTouches is a batch's hint: the touches' objects and buckets, by twos.
func wantTouches(t *testing.T, o *Oracle, pairs ...int) {
	t.Helper()
	wantHint(t, o, api.Hint{Kind: api.ActBatch, Touches: touchesOf(pairs...)})
}

func touchesOf(pairs ...int) []api.Touch {
	var touches []api.Touch
	for i := 0; i < len(pairs); i += 2 {
		touches = append(touches, api.Touch{Object: pairs[i], Bucket: pairs[i+1]})
	}
	return touches
}

func wantEnd(t *testing.T, o *Oracle) {
	t.Helper()
	if h, more := o.Next(); more || !reflect.DeepEqual(h, api.Hint{}) {
		t.Fatalf("Next: %+v, %v behind the last act", h, more)
	}
}

func tell(t *testing.T, o *Oracle, fate int, want api.Errno) {
	t.Helper()
	if e := o.Tell(fate); e != want {
		t.Fatalf("Tell(%d): %d, want %d", fate, e, want)
	}
}

func none(t *testing.T, o *Oracle)    { t.Helper(); tell(t, o, api.FateNone, api.OK) }
func done(t *testing.T, o *Oracle)    { t.Helper(); tell(t, o, api.FateDone, api.OK) }
func open(t *testing.T, o *Oracle)    { t.Helper(); tell(t, o, api.FateOpen, api.OK) }
func cleared(t *testing.T, o *Oracle) { t.Helper(); tell(t, o, api.FateClear, api.OK) }

// untold is a fate that is not told.
const untold = -1

// hintsOf is all hints of a script, each act being told the fate of its number.
func hintsOf(t *testing.T, c api.Config, script []api.Act, fates []int) []api.Hint {
	t.Helper()
	o := mustOf(t, c, script...)
	var hints []api.Hint
	for i := range script {
		h, more := o.Next()
		if !more {
			t.Fatalf("there is no act %d", i)
		}
		hints = append(hints, h)
		if fates[i] != untold {
			tell(t, o, fates[i], api.OK)
		}
	}
	wantEnd(t, o)
	return hints
}

// What follows does the document's words once more. A state is the list of the batches that lead to it from a new one on; all
// of them are done anew whenever touches are asked for, over plain lists. The tree's own calls are taken for what they say.

type history struct{ batches [][]api.Op }

func (h *history) and(ops []api.Op) *history {
	return &history{append(slices.Clone(h.batches), ops)}
}

// plainTable is the rows' files, and the queue.
type plainTable struct{ owners, queue []int }

func (p *plainTable) take() int {
	i := p.queue[0]
	p.queue = p.queue[1:]
	return i
}

// touch is the rows of the slots of a batch whose effects these are.
func (p *plainTable) touch(slots int, effects []api.Effect) []int {
	var rows []int
	for i := range slots {
		row := -1
		if i < len(effects) {
			switch e := effects[i]; e.Kind {
			case api.EffMade:
				row = p.take()
				p.owners[row] = e.File
			case api.EffRead, api.EffWrite, api.EffCut:
				row = slices.Index(p.owners, e.File)
			case api.EffGone:
				row = slices.Index(p.owners, e.File)
				p.owners[row] = -1
			case api.EffOver:
				row = slices.Index(p.owners, e.Gone)
				p.owners[row] = -1
			}
		}
		if row < 0 || slices.Contains(rows, row) {
			row = p.take()
		}
		rows = append(rows, row)
	}
	for _, row := range rows {
		if p.owners[row] == -1 {
			p.queue = append(p.queue, row)
		}
	}
	return rows
}

func bucketOf(c api.Config, size int) int {
	n, _ := frame.Size(size, c.Least)
	return n
}

func sizeOf(x *tree.Tree, file int) int {
	for _, n := range x.State().Nodes {
		if n.Kind == api.IsFile && n.Number == file {
			return n.Size
		}
	}
	return 0
}

// plainLists is the touches of batches behind one another.
func plainLists(c api.Config, batches [][]api.Op) [][]api.Touch {
	x, _ := tree.New(c.Files, c.Dirs, c.MaxFile)
	p := &plainTable{}
	for i := range c.Files + c.Slots {
		p.owners, p.queue = append(p.owners, -1), append(p.queue, i)
	}
	var lists [][]api.Touch
	for _, ops := range batches {
		var effects []api.Effect
		for _, op := range ops {
			_, e := x.Do(op)
			effects = append(effects, e)
		}
		var touches []api.Touch
		for _, row := range p.touch(c.Slots, effects) {
			touches = append(touches, api.Touch{Object: row, Bucket: bucketOf(c, sizeOf(x, p.owners[row]))})
		}
		lists = append(lists, touches)
	}
	return lists
}

// plain is an oracle.
type plain struct {
	c            api.Config
	acts         []api.Act
	at           int // how many were asked for
	waits        bool
	counts, open *history
}

func (p *plain) candidate(a api.Act) *history {
	if a.Kind == api.ActFormat {
		return &history{}
	}
	if a.Kind == api.ActBatch && p.counts != nil && len(a.Ops) <= p.c.Slots {
		return p.counts.and(a.Ops)
	}
	return nil
}

func (p *plain) next() (api.Hint, bool) {
	if p.at == len(p.acts) {
		return api.Hint{}, false
	}
	a := p.acts[p.at]
	p.at++
	p.waits = true
	h := api.Hint{Kind: a.Kind}
	if a.Kind == api.ActFuse {
		h.I = a.I
	}
	if a.Kind == api.ActEdit {
		h.Edit = a.Edit
	}
	if x := p.candidate(a); x != nil && a.Kind == api.ActBatch {
		lists := plainLists(p.c, x.batches)
		h.Touches = lists[len(lists)-1]
	}
	return h, true
}

func (p *plain) tell(fate int) api.Errno {
	if fate < 0 || fate > 3 || !p.waits {
		return api.ErrArg
	}
	p.waits = false
	a := p.acts[p.at-1]
	x := p.candidate(a)
	if fate == api.FateDone && x != nil {
		p.counts, p.open = x, nil
	}
	if fate == api.FateDone && a.Kind == api.ActRecover && p.open != nil {
		p.counts, p.open = p.open, nil
	}
	if fate == api.FateOpen && x != nil {
		p.open = x
	}
	if fate == api.FateClear && (a.Kind == api.ActFormat || a.Kind == api.ActRecover || a.Kind == api.ActBatch) {
		p.open = nil
	}
	return api.OK
}

// Some of everything.

func someConfig(r *rand.Rand) api.Config {
	return api.Config{Slots: 1 + r.Intn(6), Files: 1 + r.Intn(6), Dirs: r.Intn(4), MaxFile: r.Intn(300), Least: 16 + r.Intn(60), Page: 64 + r.Intn(300)}
}

var badPaths = []string{"", "a", "/a//b", "/..", "/a/", "/" + strings.Repeat("n", 33), strings.Repeat("/a", 17), "/a b"}

func somePath(r *rand.Rand) string {
	names := []string{"/a", "/b", "/c", "/d"}
	path := names[r.Intn(len(names))]
	if r.Intn(6) == 0 {
		path += names[r.Intn(2)]
	}
	if r.Intn(40) == 0 {
		return "/"
	}
	if r.Intn(40) == 0 {
		return badPaths[r.Intn(len(badPaths))]
	}
	return path
}

func someOp(r *rand.Rand, most int) api.Op {
	kinds := []int{api.OpCreate, api.OpCreate, api.OpCreate, api.OpMkdir, api.OpWrite, api.OpCut, api.OpRead, api.OpRename, api.OpRemove, 1 + r.Intn(10), r.Intn(14) - 1}
	op := api.Op{Kind: kinds[r.Intn(len(kinds))], Path: somePath(r), To: somePath(r), At: r.Intn(most + 2), N: r.Intn(most + 2)}
	op.Data = strings.Repeat("y", r.Intn(most+2))
	if r.Intn(3) > 0 {
		op.At = 0
	}
	if r.Intn(30) == 0 {
		op.At, op.N = -r.Intn(2), -1
	}
	return op
}

// someOps is a batch, now and then with more operations than slots.
func someOps(r *rand.Rand, c api.Config) []api.Op {
	n := r.Intn(c.Slots + 1)
	if r.Intn(12) == 0 {
		n = c.Slots + 1 + r.Intn(3)
	}
	var ops []api.Op
	for range n {
		ops = append(ops, someOp(r, c.MaxFile))
	}
	return ops
}

// someAct holds more than its kind names.
func someAct(r *rand.Rand, c api.Config) api.Act {
	kinds := []int{api.ActFormat, api.ActRecover, api.ActBatch, api.ActBatch, api.ActBatch, api.ActBatch, r.Intn(10) - 1}
	e := api.Edit{Before: r.Intn(9), Kind: r.Intn(8), Put: r.Intn(9), From: r.Intn(9), Name: somePath(r), Blob: somePath(r)}
	return api.Act{Kind: kinds[r.Intn(len(kinds))], Ops: someOps(r, c), I: r.Intn(9) - 1, Edit: e}
}

// someScript begins with a Format that is done, mostly: without one no batch has touches.
func someScript(r *rand.Rand, c api.Config) ([]api.Act, []int) {
	var script []api.Act
	var fates []int
	if r.Intn(8) > 0 {
		script, fates = append(script, F()), append(fates, api.FateDone)
	}
	for range r.Intn(14) {
		a := someAct(r, c)
		fate := []int{api.FateDone, api.FateDone, api.FateDone, api.FateOpen, api.FateClear, api.FateNone, untold}[r.Intn(7)]
		if a.Kind == api.ActFormat && r.Intn(4) > 0 {
			fate = api.FateNone // else the files are gone again and again
		}
		script, fates = append(script, a), append(fates, fate)
	}
	return script, fates
}

// P19.1

func TestConfigurationsThatMayNotBe(t *testing.T) {
	refused := func(what string, c api.Config) {
		t.Helper()
		if o, e := Of(c, acts(F())); o != nil || e != api.ErrConfig {
			t.Errorf("%s: Of: %v, %d", what, o, e)
		}
		for _, batches := range [][][]api.Op{nil, {nil}, {make([]api.Op, 100)}} {
			if l, e := List(c, batches); l != nil || e != api.ErrConfig {
				t.Errorf("%s: List: %v, %d", what, l, e)
			}
		}
	}
	for _, f := range []struct {
		name      string
		of        func(c *api.Config) *int
		low, high int
	}{
		{"Slots", func(c *api.Config) *int { return &c.Slots }, 0, 65},
		{"Files", func(c *api.Config) *int { return &c.Files }, 0, 65537},
		{"Dirs", func(c *api.Config) *int { return &c.Dirs }, -1, 4097},
		{"MaxFile", func(c *api.Config) *int { return &c.MaxFile }, -1, 65537},
		{"Least", func(c *api.Config) *int { return &c.Least }, 15, 65537},
		{"Page", func(c *api.Config) *int { return &c.Page }, 63, 65537},
	} {
		for _, n := range []int{f.low, f.high, math.MinInt, math.MaxInt} {
			c := small()
			*f.of(&c) = n
			refused(fmt.Sprintf("%s %d", f.name, n), c)
		}
	}
	refused("too many pages", api.Config{Slots: 1, Files: 65536, Page: 64, Least: 16})
	refused("nothing", api.Config{})
}

func TestConfigurationsAtTheirLimits(t *testing.T) {
	for _, c := range []api.Config{
		{Slots: 1, Files: 1, Dirs: 0, MaxFile: 0, Least: 16, Page: 64},
		{Slots: 64, Files: 1, Dirs: 4096, MaxFile: 65536, Least: 65536, Page: 65536},
		small(), greatest(),
	} {
		bucket := bucketOf(c, 0)
		var first, second []api.Touch
		for i := range c.Slots {
			first = append(first, api.Touch{Object: i, Bucket: bucket})
			second = append(second, api.Touch{Object: (c.Slots + i) % (c.Files + c.Slots), Bucket: bucket})
		}
		o := mustOf(t, c, F(), B(), B())
		wantKind(t, o, api.ActFormat)
		done(t, o)
		for _, touches := range [][]api.Touch{first, second} {
			wantHint(t, o, api.Hint{Kind: api.ActBatch, Touches: touches})
			done(t, o)
		}
		lists, e := List(c, make([][]api.Op, 2))
		if e != api.OK || len(lists) != 2 || !slices.Equal(lists[0], first) || !slices.Equal(lists[1], second) {
			t.Errorf("List(%+v): %v, %d", c, lists, e)
		}
	}
}

func TestNoActs(t *testing.T) {
	for _, script := range [][]api.Act{nil, {}} {
		o := mustOf(t, small(), script...)
		wantEnd(t, o)
		for fate := -1; fate <= 4; fate++ {
			tell(t, o, fate, api.ErrArg)
		}
		wantEnd(t, o)
	}
}

func TestOraclesThatNoCallMade(t *testing.T) {
	for _, o := range []*Oracle{nil, {}} {
		for _, fate := range []int{math.MinInt, -1, 0, 1, 2, 3, 4, math.MaxInt} {
			wantEnd(t, o)
			tell(t, o, fate, api.ErrNil)
		}
	}
}

func roomyOps(ops ...api.Op) []api.Op {
	return append(slices.Clone(ops), mkdir("/behind"), write("/behind", 3))[:len(ops)]
}

// roomyActs is a script with spare room behind every list of it.
func roomyActs(script ...api.Act) []api.Act {
	all := append(slices.Clone(script), B(create("/behind")), F())
	for i := range all {
		all[i].Ops = roomyOps(all[i].Ops...)
	}
	return all[:len(script)]
}

// wholeActs is all that lies in a script's memory, as a copy.
func wholeActs(script []api.Act) []api.Act {
	whole := slices.Clone(script[:cap(script)])
	for i := range whole {
		whole[i].Ops = slices.Clone(whole[i].Ops[:cap(whole[i].Ops)])
	}
	return whole
}

func TestWhatIsHandedInStays(t *testing.T) {
	r := rand.New(rand.NewSource(191))
	for range 300 {
		c := someConfig(r)
		plain, fates := someScript(r, c)
		script := roomyActs(plain...)
		was := wholeActs(script)
		hintsOf(t, c, script, fates)
		if is := wholeActs(script); !reflect.DeepEqual(is, was) {
			t.Fatalf("the acts are %+v, were %+v", is, was)
		}
	}
}

func TestWhatIsHandedInIsNotKept(t *testing.T) {
	r := rand.New(rand.NewSource(192))
	for range 300 {
		c := someConfig(r)
		script, fates := someScript(r, c)
		want := hintsOf(t, c, script, fates)
		handed := changed(script, func(ops []api.Op) []api.Op { return ops })
		o := mustOf(t, c, handed...)
		other, e := Of(c, handed)
		if e != api.OK {
			t.Fatalf("Of: %d", e)
		}
		for i := range want {
			for k := range handed {
				for j := range handed[k].Ops {
					handed[k].Ops[j] = someOp(r, c.MaxFile)
				}
				handed[k] = api.Act{Kind: 9, Ops: append(handed[k].Ops[:0], stat("/spoilt")), I: 99}
			}
			for _, x := range []*Oracle{o, other} {
				wantHint(t, x, want[i])
				if fates[i] != untold {
					tell(t, x, fates[i], api.OK)
				}
			}
		}
	}
}

// Two oracles of one list go their own ways.
func TestOraclesShareNothing(t *testing.T) {
	script := acts(F(), B(create("/a")), B(write("/a", 20)), B())
	a, _ := Of(small(), script)
	b, _ := Of(small(), script)
	wantKind(t, a, api.ActFormat)
	tell(t, b, api.FateDone, api.ErrArg)
	done(t, a)
	wantTouches(t, a, 0, 16, 1, 16, 2, 16)
	wantKind(t, b, api.ActFormat)
	none(t, b)
	done(t, a)
	wantTouches(t, b)
	wantTouches(t, a, 0, 26, 3, 16, 4, 16)
	done(t, a)
	wantTouches(t, b)
	wantTouches(t, a, 1, 16, 2, 16, 3, 16)
	wantTouches(t, b)
	wantEnd(t, a)
	wantEnd(t, b)
}

// Of a copy of the struct the document says nothing: it is the same oracle.
func TestACopyIsTheSameOracle(t *testing.T) {
	o := mustOf(t, small(), F(), B(), B())
	again := *o
	wantKind(t, o, api.ActFormat)
	done(t, &again)
	tell(t, o, api.FateDone, api.ErrArg)
	wantTouches(t, &again, 0, 16, 1, 16, 2, 16)
	done(t, o)
	wantTouches(t, o, 3, 16, 4, 16, 0, 16)
	wantEnd(t, &again)
}

// P19.2

func TestHintByKind(t *testing.T) {
	e := api.Edit{Before: 3, Kind: api.EditAdd, Put: 4, From: 5, Name: "n", Blob: "b"}
	for _, kind := range []int{math.MinInt, -1, 0, 1, 2, 3, 4, 5, 6, 7, 9, 100, math.MaxInt} {
		for _, i := range []int{math.MinInt, -1, 0, 5, math.MaxInt} {
			for _, ops := range [][]api.Op{nil, {create("/a")}, make([]api.Op, 4)} {
				want := api.Hint{Kind: kind}
				if kind == api.ActFuse {
					want.I = i
				}
				if kind == api.ActEdit {
					want.Edit = e
				}
				o := mustOf(t, small(), api.Act{Kind: kind, I: i, Ops: ops, Edit: e}) // no state counts
				wantHint(t, o, want)
				wantEnd(t, o)
				if kind == api.ActBatch && len(ops) <= 3 {
					want.Touches = touchesOf(0, 16, 1, 16, 2, 16)
				}
				o = mustOf(t, small(), F(), api.Act{Kind: kind, I: i, Ops: ops, Edit: e})
				wantKind(t, o, api.ActFormat)
				done(t, o)
				wantHint(t, o, want)
				wantEnd(t, o)
			}
		}
	}
}

func TestEditsAsTheyAre(t *testing.T) {
	for _, e := range []api.Edit{
		{},
		{Before: math.MinInt, Kind: math.MaxInt, Put: -1, From: math.MinInt, Name: "\x00\xff", Blob: strings.Repeat("b", 1<<20+1)},
		{Before: 1 << 41, Kind: 99, Name: strings.Repeat("n", 65)},
	} {
		o := mustOf(t, small(), api.Act{Kind: api.ActEdit, I: 7, Edit: e, Ops: []api.Op{create("/a")}})
		wantHint(t, o, api.Hint{Kind: api.ActEdit, Edit: e})
	}
}

func TestExamples1And2(t *testing.T) {
	o := mustOf(t, small(), B(create("/a")), F(), B(create("/a")), B(write("/a", 20)), R())
	tell(t, o, 0, api.ErrArg)
	wantTouches(t, o)
	done(t, o)
	wantKind(t, o, api.ActFormat)
	done(t, o)
	tell(t, o, 1, api.ErrArg)
	wantTouches(t, o, 0, 16, 1, 16, 2, 16)
	done(t, o)
	wantTouches(t, o, 0, 26, 3, 16, 4, 16)
	tell(t, o, 4, api.ErrArg)
	open(t, o)
	wantKind(t, o, api.ActRecover)
	done(t, o)
	wantEnd(t, o)
}

func TestExample3(t *testing.T) {
	for _, f := range []struct {
		fate    int
		touches []int
	}{
		{api.FateDone, []int{0, 26, 1, 16, 2, 16}},
		{api.FateClear, []int{0, 16, 3, 16, 4, 16}},
		{api.FateNone, []int{0, 16, 3, 16, 4, 16}},
	} {
		o := mustOf(t, small(), F(), B(create("/a")), B(write("/a", 20)), R(), B(read("/a", 9)))
		wantKind(t, o, api.ActFormat)
		done(t, o)
		wantTouches(t, o, 0, 16, 1, 16, 2, 16)
		done(t, o)
		wantTouches(t, o, 0, 26, 3, 16, 4, 16)
		open(t, o)
		wantKind(t, o, api.ActRecover)
		tell(t, o, f.fate, api.OK)
		wantTouches(t, o, f.touches...)
	}
}

func TestExample4(t *testing.T) {
	o := mustOf(t, small(), F(), B(create("/a"), write("/a", 50)), B(stat("/"), create("/b")), R(), B(read("/b", 1), read("/a", 1)))
	wantKind(t, o, api.ActFormat)
	done(t, o)
	wantTouches(t, o, 0, 56, 1, 16, 2, 16)
	open(t, o)
	wantTouches(t, o, 0, 16, 1, 16, 2, 16)
	open(t, o)
	wantKind(t, o, api.ActRecover)
	done(t, o)
	wantTouches(t, o, 1, 16, 3, 16, 4, 16)
}

func TestExample5(t *testing.T) {
	o := mustOf(t, small(), F(), B(create("/a")), B(), R(), B())
	wantKind(t, o, api.ActFormat)
	done(t, o)
	wantTouches(t, o, 0, 16, 1, 16, 2, 16)
	wantTouches(t, o, 0, 16, 1, 16, 2, 16)
	wantKind(t, o, api.ActRecover)
	done(t, o)
	wantTouches(t, o, 0, 16, 1, 16, 2, 16)
}

func TestExample6(t *testing.T) {
	four := make([]api.Op, 4)
	for _, f := range []struct {
		fate int
		next []int // of a batch behind a Recover that is done
	}{
		{api.FateNone, []int{3, 16, 4, 16, 0, 16}},
		{api.FateDone, []int{3, 16, 4, 16, 0, 16}},
		{api.FateOpen, []int{3, 16, 4, 16, 0, 16}},
		{untold, []int{3, 16, 4, 16, 0, 16}},
		{api.FateClear, []int{0, 16, 1, 16, 2, 16}},
	} {
		o := mustOf(t, small(), F(), B(), B(four...), B(), R(), B())
		wantKind(t, o, api.ActFormat)
		done(t, o)
		wantTouches(t, o, 0, 16, 1, 16, 2, 16)
		open(t, o)
		wantTouches(t, o)
		if f.fate != untold {
			tell(t, o, f.fate, api.OK)
		}
		wantTouches(t, o, 0, 16, 1, 16, 2, 16)
		none(t, o)
		wantKind(t, o, api.ActRecover)
		done(t, o)
		wantTouches(t, o, f.next...)
	}
}

func TestExample7(t *testing.T) {
	e := api.Edit{Before: 1, Kind: api.EditDrop, Put: 2}
	o := mustOf(t, small(), api.Act{Kind: api.ActFuse, I: 5, Ops: []api.Op{create("/a")}, Edit: e},
		api.Act{Kind: api.ActEdit, I: 5, Edit: e}, api.Act{Kind: 9, I: 5, Edit: e, Ops: []api.Op{create("/a")}})
	wantHint(t, o, api.Hint{Kind: api.ActFuse, I: 5})
	wantHint(t, o, api.Hint{Kind: api.ActEdit, Edit: e})
	wantHint(t, o, api.Hint{Kind: 9})
	wantEnd(t, o)
}

// A hint without touches has no list at all, though whoever gets it could not tell.
func TestHintsWithoutTouches(t *testing.T) {
	o := mustOf(t, small(), B(), F(), B(make([]api.Op, 4)...), R())
	for range 4 {
		h, more := o.Next()
		if !more || h.Touches != nil {
			t.Errorf("Next: %+v, %v", h, more)
		}
		o.Tell(api.FateDone)
	}
}

// The candidate hangs on the number of operations alone: c.Slots, and one more.
func TestAsManyOperationsAsSlots(t *testing.T) {
	for _, slots := range []int{1, 2, 63, 64} {
		c := api.Config{Slots: slots, Files: 70, Dirs: 2, MaxFile: 100, Least: 16, Page: 64}
		for n := slots - 1; n <= slots+1; n++ {
			var ops []api.Op
			for i := range n {
				ops = append(ops, create(fmt.Sprintf("/%d", i)))
			}
			o := mustOf(t, c, F(), B(ops...))
			wantKind(t, o, api.ActFormat)
			done(t, o)
			h, more := o.Next()
			if want := slots; !more || n <= slots && len(h.Touches) != want || n > slots && h.Touches != nil {
				t.Errorf("%d operations, %d slots: %d touches", n, slots, len(h.Touches))
			}
			done(t, o)
			lists, e := List(c, [][]api.Op{nil, ops})
			if n <= slots && (e != api.OK || len(lists) != 2) || n > slots && (e != api.ErrBatch || lists != nil) {
				t.Errorf("%d operations, %d slots: List: %v, %d", n, slots, lists, e)
			}
		}
	}
}

func scribble(touches []api.Touch) {
	for i := range touches[:cap(touches)] {
		touches[:cap(touches)][i] = api.Touch{Object: -9, Bucket: -9}
	}
	_ = append(touches, api.Touch{Object: -8}, api.Touch{Object: -8})
}

func TestTouchesAreNewMemory(t *testing.T) {
	r := rand.New(rand.NewSource(193))
	for range 200 {
		c := someConfig(r)
		script, fates := someScript(r, c)
		want := hintsOf(t, c, script, fates)
		o, other := mustOf(t, c, script...), mustOf(t, c, script...)
		for i := range want {
			h, _ := o.Next()
			if !sameHint(h, want[i]) {
				t.Fatalf("Next: %+v, want %+v", h, want[i])
			}
			scribble(h.Touches)
			wantHint(t, other, want[i])
			if fates[i] != untold {
				done, also := o.Tell(fates[i]), other.Tell(fates[i])
				if done != api.OK || also != api.OK {
					t.Fatalf("Tell: %d, %d", done, also)
				}
			}
			scribble(h.Touches)
		}
	}
}

// P19.3

func TestFatesThatAreNone(t *testing.T) {
	o := mustOf(t, small(), F(), B(), B())
	wrong := []int{math.MinInt, -2, -1, 4, 5, 256, math.MaxInt}
	for _, fate := range wrong {
		tell(t, o, fate, api.ErrArg)
	}
	wantKind(t, o, api.ActFormat)
	for _, fate := range wrong {
		tell(t, o, fate, api.ErrArg) // and the act waits on
	}
	done(t, o)
	wantTouches(t, o, 0, 16, 1, 16, 2, 16)
	done(t, o)
	for _, fate := range append(wrong, 0, 1, 2, 3) {
		tell(t, o, fate, api.ErrArg)
	}
	wantTouches(t, o, 3, 16, 4, 16, 0, 16)
}

// An act is told of once, whatever the fate; the last one behind the end, too.
func TestToldOnce(t *testing.T) {
	for fate := range 4 {
		o := mustOf(t, small(), F(), actOf(0), R(), B(), actOf(api.ActPower))
		for range 5 {
			for again := range 4 {
				tell(t, o, again, api.ErrArg)
			}
			if _, more := o.Next(); !more {
				t.Fatalf("there is no further act")
			}
			tell(t, o, fate, api.OK)
		}
		tell(t, o, fate, api.ErrArg)
		wantEnd(t, o)
		tell(t, o, fate, api.ErrArg)

		o = mustOf(t, small(), F())
		wantKind(t, o, api.ActFormat)
		wantEnd(t, o)
		wantEnd(t, o)
		tell(t, o, fate, api.OK)
		tell(t, o, fate, api.ErrArg)
	}
}

// A fate is of the act that was asked for last: of those ahead of it nothing is told any more.
func TestTellIsOfTheLastOne(t *testing.T) {
	o := mustOf(t, small(), F(), B(), B())
	wantKind(t, o, api.ActFormat)
	wantTouches(t, o)
	done(t, o) // of the batch, which has no candidate
	wantTouches(t, o)

	o = mustOf(t, small(), F(), B(create("/a")), actOf(api.ActFuse), B())
	wantKind(t, o, api.ActFormat)
	done(t, o)
	wantTouches(t, o, 0, 16, 1, 16, 2, 16)
	wantKind(t, o, api.ActFuse)
	done(t, o)
	tell(t, o, api.FateDone, api.ErrArg)
	wantTouches(t, o, 0, 16, 1, 16, 2, 16)
}

// mark tells a state: by the first touch of a Read of /a from it on. A missing one has none.
type mark = api.Touch

var (
	lacks = mark{}
	fresh = mark{Object: 0, Bucket: 16} // a new state
	once  = mark{Object: 3, Bucket: 16} // the state behind a batch of nothing
	twice = mark{Object: 1, Bucket: 16} // behind two of them
)

// place is how an oracle was led to where an act is told of, and the two states that it has there.
type place struct {
	what         string
	acts         []api.Act
	fates        []int
	counts, open mark
}

func places() []place {
	done, open := api.FateDone, api.FateOpen
	return []place{
		{"nothing", nil, nil, lacks, lacks},
		{"a Format open", acts(F()), []int{open}, lacks, fresh},
		{"a Format", acts(F()), []int{done}, fresh, lacks},
		{"a Format and a batch", acts(F(), B()), []int{done, done}, once, lacks},
		{"a Format, and a batch open", acts(F(), B()), []int{done, open}, fresh, once},
		{"a batch, and one open", acts(F(), B(), B()), []int{done, done, open}, once, twice},
		{"a batch, and a Format open", acts(F(), B(), F()), []int{done, done, open}, once, fresh},
	}
}

// candidateOf is the mark of an act's candidate. Its batch makes /a, of 50 bytes, in the row that a Read would touch.
func candidateOf(a api.Act, counts mark) mark {
	if a.Kind == api.ActFormat {
		return fresh
	}
	if a.Kind == api.ActBatch && len(a.Ops) == 2 && counts != lacks {
		return mark{Object: counts.Object, Bucket: 56}
	}
	return lacks
}

func behindFate(p place, a api.Act, fate int) (counts, open mark) {
	candidate := candidateOf(a, p.counts)
	switch {
	case fate == api.FateDone && candidate != lacks:
		return candidate, lacks
	case fate == api.FateDone && a.Kind == api.ActRecover && p.open != lacks:
		return p.open, lacks
	case fate == api.FateOpen && candidate != lacks:
		return p.counts, candidate
	case fate == api.FateClear && (a.Kind == api.ActFormat || a.Kind == api.ActRecover || a.Kind == api.ActBatch):
		return p.counts, lacks
	}
	return p.counts, p.open
}

// wantMarks asks for both states: by a Read, a Recover that is done, and a Read.
func wantMarks(t *testing.T, what string, o *Oracle, counts, open mark) {
	t.Helper()
	marked := func() mark {
		h, more := o.Next()
		if !more || h.Kind != api.ActBatch {
			t.Fatalf("%s: Next: %+v, %v", what, h, more)
		}
		if len(h.Touches) == 0 {
			return lacks
		}
		return h.Touches[0]
	}
	if is := marked(); is != counts {
		t.Errorf("%s: %v counts, want %v", what, is, counts)
	}
	wantKind(t, o, api.ActRecover)
	done(t, o)
	if open == lacks {
		open = counts
	}
	if is := marked(); is != open {
		t.Errorf("%s: %v counts behind a Recover, want %v", what, is, open)
	}
}

// Every kind of act, in every place, with every fate.
func TestEveryFate(t *testing.T) {
	of := acts(F(), R(), B(create("/a"), write("/a", 50)), B(make([]api.Op, 4)...), actOf(api.ActFuse), actOf(api.ActPower), actOf(api.ActEdit), actOf(0), actOf(7), actOf(-1))
	for _, p := range places() {
		for _, a := range of {
			for _, fate := range []int{api.FateNone, api.FateDone, api.FateOpen, api.FateClear, untold} {
				what := fmt.Sprintf("%s, then the kind %d with %d operations, told %d", p.what, a.Kind, len(a.Ops), fate)
				o := mustOf(t, small(), append(slices.Clone(p.acts), a, B(read("/a", 1)), R(), B(read("/a", 1)))...)
				for _, f := range append(slices.Clone(p.fates), fate) {
					if _, more := o.Next(); !more {
						t.Fatalf("%s: there is no further act", what)
					}
					if f != untold {
						tell(t, o, f, api.OK)
					}
				}
				counts, open := behindFate(p, a, fate)
				wantMarks(t, what, o, counts, open)
			}
		}
	}
}

// A Recover that is done where nothing is open leaves what counts; a second one behind it, too.
func TestRecoverTwice(t *testing.T) {
	o := mustOf(t, small(), F(), B(create("/a"), write("/a", 20)), R(), R(), B(read("/a", 1)))
	wantKind(t, o, api.ActFormat)
	done(t, o)
	wantTouches(t, o, 0, 26, 1, 16, 2, 16)
	open(t, o)
	for range 2 {
		wantKind(t, o, api.ActRecover)
		done(t, o)
	}
	wantTouches(t, o, 0, 26, 3, 16, 4, 16)
}

// What is open stays so over acts that have no say in it, and a Recover that is told nothing; what is cleared is so for good.
func TestOpenStays(t *testing.T) {
	for _, f := range []struct {
		ofRecover int
		touches   []int
	}{{api.FateNone, []int{0, 26, 3, 16, 4, 16}}, {api.FateClear, []int{0, 16, 1, 16, 2, 16}}} {
		o := mustOf(t, small(), F(), B(create("/a"), write("/a", 20)), actOf(api.ActFuse), R(), actOf(api.ActPower), actOf(api.ActEdit), R(), B(read("/a", 1)))
		wantKind(t, o, api.ActFormat)
		done(t, o)
		wantTouches(t, o, 0, 26, 1, 16, 2, 16)
		open(t, o)
		wantKind(t, o, api.ActFuse)
		cleared(t, o)
		wantKind(t, o, api.ActRecover)
		tell(t, o, f.ofRecover, api.OK)
		wantKind(t, o, api.ActPower)
		cleared(t, o)
		wantKind(t, o, api.ActEdit)
		open(t, o)
		wantKind(t, o, api.ActRecover)
		done(t, o)
		wantTouches(t, o, f.touches...)
	}
}

// P19.1 to P19.3, at random

func TestInStepAtRandom(t *testing.T) {
	r := rand.New(rand.NewSource(194))
	type event struct {
		kind, fate int
		touches    bool
	}
	counts := map[event]int{}
	for range 3000 {
		c := someConfig(r)
		script, fates := someScript(r, c)
		o, p := mustOf(t, c, script...), &plain{c: c, acts: script}
		for _, fate := range append(fates, untold) {
			if r.Intn(4) == 0 {
				fate := r.Intn(8) - 2
				if e, want := o.Tell(fate), p.tell(fate); e != want {
					t.Fatalf("Tell(%d): %d, want %d", fate, e, want)
				}
			}
			h, more := o.Next()
			want, wantMore := p.next()
			if more != wantMore || !sameHint(h, want) {
				t.Fatalf("%+v of %+v: Next: %+v, %v, want %+v, %v", c, script, h, more, want, wantMore)
			}
			if e, want := o.Tell(fate), p.tell(fate); e != want {
				t.Fatalf("Tell(%d): %d, want %d", fate, e, want)
			}
			counts[event{h.Kind, fate, len(h.Touches) > 0}]++
		}
	}
	for fate := untold; fate <= api.FateClear; fate++ {
		for _, e := range []event{{api.ActBatch, fate, true}, {api.ActBatch, fate, false}, {api.ActFormat, fate, false}, {api.ActRecover, fate, false}, {api.ActPower, fate, false}} {
			if counts[e] < 20 {
				t.Errorf("%+v came %d times: too few to say something", e, counts[e])
			}
		}
	}
}

// P19.4

func wantLists(t *testing.T, c api.Config, batches [][]api.Op, want [][]api.Touch) {
	t.Helper()
	lists, e := List(c, batches)
	if e != api.OK || !slices.EqualFunc(lists, want, slices.Equal) {
		t.Fatalf("List(%+v, %+v): %v, %d, want %v", c, batches, lists, e, want)
	}
}

func TestExample8(t *testing.T) {
	wantLists(t, small(), [][]api.Op{nil, {create("/a")}}, [][]api.Touch{touchesOf(0, 16, 1, 16, 2, 16), touchesOf(3, 16, 4, 16, 0, 16)})
	for _, batches := range [][][]api.Op{{make([]api.Op, 4)}, {nil, make([]api.Op, 4)}, {make([]api.Op, 4), nil}, {nil, make([]api.Op, 100), nil}} {
		if l, e := List(small(), batches); l != nil || e != api.ErrBatch {
			t.Errorf("List: %v, %d", l, e)
		}
	}
	if l, e := List(api.Config{Files: 2, Dirs: 2, MaxFile: 100, Least: 16, Page: 64}, [][]api.Op{make([]api.Op, 4)}); l != nil || e != api.ErrConfig {
		t.Errorf("List: %v, %d", l, e)
	}
}

func TestListOfNothing(t *testing.T) {
	for _, batches := range [][][]api.Op{nil, {}} {
		wantLists(t, small(), batches, nil)
	}
	wantLists(t, small(), [][]api.Op{{}, nil}, [][]api.Touch{touchesOf(0, 16, 1, 16, 2, 16), touchesOf(3, 16, 4, 16, 0, 16)})
	wantLists(t, small(), [][]api.Op{make([]api.Op, 3)}, [][]api.Touch{touchesOf(0, 16, 1, 16, 2, 16)})
}

// List is what an oracle tells of a Format and these batches, all of which are done.
func TestListAtRandom(t *testing.T) {
	r := rand.New(rand.NewSource(195))
	refused := 0
	for range 2000 {
		c := someConfig(r)
		script, fates := acts(F()), []int{api.FateDone}
		var batches [][]api.Op
		tooMany := false
		for range r.Intn(8) {
			ops := someOps(r, c)
			tooMany = tooMany || len(ops) > c.Slots
			batches = append(batches, ops)
			script, fates = append(script, B(ops...)), append(fates, api.FateDone)
		}
		if tooMany {
			refused++
			if l, e := List(c, batches); l != nil || e != api.ErrBatch {
				t.Fatalf("List(%+v, %+v): %v, %d", c, batches, l, e)
			}
			continue
		}
		wantLists(t, c, batches, plainLists(c, batches))
		var told [][]api.Touch
		for _, h := range hintsOf(t, c, script, fates)[1:] {
			told = append(told, h.Touches)
		}
		wantLists(t, c, batches, told)
	}
	if refused < 100 || refused > 1000 {
		t.Errorf("%d were refused: too few to say something", refused)
	}
}

func TestListsAreNewMemory(t *testing.T) {
	batches := [][]api.Op{{create("/a")}, {write("/a", 20)}, nil}
	want := [][]api.Touch{touchesOf(0, 16, 1, 16, 2, 16), touchesOf(0, 26, 3, 16, 4, 16), touchesOf(1, 16, 2, 16, 3, 16)}
	for i := range want {
		lists, e := List(small(), batches)
		if e != api.OK || len(lists) != 3 {
			t.Fatalf("List: %v, %d", lists, e)
		}
		scribble(lists[i])
		for k := range want {
			if k != i && !slices.Equal(lists[k], want[k]) {
				t.Errorf("the list %d is %v behind a change of %d", k, lists[k], i)
			}
		}
		_ = append(lists[:0], nil, nil, nil, nil)
		wantLists(t, small(), batches, want)
	}
}

func TestWhatIsHandedToListStays(t *testing.T) {
	room := [][]api.Op{roomyOps(create("/a")), roomyOps(write("/a", 20), remove("/a")), roomyOps(), roomyOps(mkdir("/behind"))}
	whole := func() [][]api.Op {
		var all [][]api.Op
		for _, ops := range room {
			all = append(all, slices.Clone(ops[:cap(ops)]))
		}
		return all
	}
	was := whole()
	for n := range room {
		if lists, e := List(small(), room[:n]); e != api.OK || len(lists) != n {
			t.Errorf("List: %v, %d", lists, e)
		}
		if is := whole(); !reflect.DeepEqual(is, was) {
			t.Errorf("the batches are %+v, were %+v", is, was)
		}
	}
}

// P19.5

// changed is a script with each operation of the batches that f is handed changed, in memory of its own.
func changed(script []api.Act, f func(ops []api.Op) []api.Op) []api.Act {
	other := slices.Clone(script)
	for i := range other {
		other[i].Ops = f(slices.Clone(other[i].Ops))
	}
	return other
}

// wantNoLeak is that a change of scripts shows in no hint; it is told how often the hints had touches.
func wantNoLeak(t *testing.T, seed int64, change func(r *rand.Rand, c api.Config, ops []api.Op) []api.Op) {
	t.Helper()
	r := rand.New(rand.NewSource(seed))
	differ, touched := 0, 0
	for range 1500 {
		c := someConfig(r)
		script, fates := someScript(r, c)
		other := changed(script, func(ops []api.Op) []api.Op { return change(r, c, ops) })
		if !reflect.DeepEqual(script, other) {
			differ++
		}
		want := hintsOf(t, c, script, fates)
		for i, h := range hintsOf(t, c, other, fates) {
			if !sameHint(h, want[i]) {
				t.Fatalf("%+v: the hint %d of %+v is %+v, of %+v %+v", c, i, script, want[i], other, h)
			}
			touched += len(h.Touches)
		}
	}
	if differ < 300 || touched < 10000 {
		t.Errorf("%d scripts were changed, %d touches: too few to say something", differ, touched)
	}
}

func TestBytesDoNotLeak(t *testing.T) {
	wantNoLeak(t, 196, func(r *rand.Rand, c api.Config, ops []api.Op) []api.Op {
		for i := range ops {
			b := make([]byte, len(ops[i].Data))
			r.Read(b)
			ops[i].Data = string(b)
		}
		return ops
	})
}

func TestNamesDoNotLeak(t *testing.T) {
	from := []string{"a", "b", "c", "d"}
	for i, to := range [][]string{
		{"d", "c", "b", "a"},
		{"b", "a", "x", "c"},
		{strings.Repeat("n", 32), strings.Repeat("m", 32), "...", "~"},
		{"!", "$", "A", "_"},
	} {
		wantNoLeak(t, 1970+int64(i), func(r *rand.Rand, c api.Config, ops []api.Op) []api.Op {
			for i := range ops {
				for _, p := range []*string{&ops[i].Path, &ops[i].To} {
					if text, e := path.Map(*p, from, to); e == api.OK {
						*p = text
					}
				}
			}
			return ops
		})
	}
}

// isIdle: in no state does it anything.
func isIdle(op api.Op) bool {
	_, e := path.Parse(op.Path)
	_, to := path.Parse(op.To)
	switch {
	case op.Kind < api.OpMkdir || op.Kind >= api.OpList, e != api.OK, op.Kind == api.OpRename && to != api.OK:
		return true
	case (op.Kind == api.OpRead || op.Kind == api.OpWrite) && op.At < 0:
		return true
	}
	return (op.Kind == api.OpRead || op.Kind == api.OpCut) && op.N < 0
}

func someIdle(r *rand.Rand) api.Op {
	bad := badPaths[r.Intn(len(badPaths))]
	return []api.Op{
		stat(somePath(r)), list(somePath(r)), stat("/none/there"),
		{Kind: []int{math.MinInt, -1, 0, 11, 12, math.MaxInt}[r.Intn(6)], Path: "/a", To: "/b", Data: "x"},
		create(bad), write(bad, 3), remove(bad), mkdir(bad), rename(bad, "/a"), rename("/a", bad), {Kind: api.OpRmdir, Path: bad},
		{Kind: api.OpRead, Path: "/a", At: -1, N: 5}, {Kind: api.OpRead, Path: "/a", N: math.MinInt}, cut("/a", -1),
		{Kind: api.OpWrite, Path: "/a", At: -1, Data: "xyz"}, {},
	}[r.Intn(16)]
}

func TestIdleOperationsDoNotLeak(t *testing.T) {
	wantNoLeak(t, 198, func(r *rand.Rand, c api.Config, ops []api.Op) []api.Op {
		if len(ops) > c.Slots {
			return ops
		}
		for i := range ops {
			if isIdle(ops[i]) {
				ops[i] = someIdle(r)
			}
		}
		for len(ops) > 0 && isIdle(ops[len(ops)-1]) && r.Intn(2) == 0 {
			ops = ops[:len(ops)-1]
		}
		for len(ops) < c.Slots && r.Intn(2) == 0 {
			ops = append(ops, someIdle(r))
		}
		return ops
	})
}

func TestReadsDoNotLeak(t *testing.T) {
	wantNoLeak(t, 199, func(r *rand.Rand, c api.Config, ops []api.Op) []api.Op {
		for i, op := range ops {
			isRead := op.Kind == api.OpRead && op.At >= 0 && op.N >= 0
			isEmpty := op.Kind == api.OpWrite && op.At == 0 && op.Data == ""
			if !isRead && !isEmpty {
				continue
			}
			far := []int{0, 1, c.MaxFile, c.MaxFile + 1, math.MaxInt}
			ops[i] = api.Op{Kind: api.OpRead, Path: op.Path, At: far[r.Intn(5)], N: far[r.Intn(5)]}
			if r.Intn(2) == 0 {
				ops[i] = api.Op{Kind: api.OpWrite, Path: op.Path}
			}
		}
		return ops
	})
}

func wantSameLists(t *testing.T, a, b [][]api.Op) {
	t.Helper()
	x, e := List(small(), a)
	y, f := List(small(), b)
	if e != api.OK || f != api.OK || !slices.EqualFunc(x, y, slices.Equal) {
		t.Errorf("List(%+v): %v, %d; List(%+v): %v, %d", a, x, e, b, y, f)
	}
}

func TestExamples9And10(t *testing.T) {
	ahead := []api.Op{create("/a"), write("/a", 20)}
	for _, f := range [][]api.Op{{stat("/x"), stat("/y"), stat("/z")}, {}, {api.Op{Kind: 99}, mkdir("a")}} {
		wantSameLists(t, [][]api.Op{{mkdir("/d")}, nil}, [][]api.Op{f, nil})
		wantSameLists(t, [][]api.Op{ahead, {mkdir("/d")}, nil}, [][]api.Op{ahead, f, nil})
	}
	abc, xyz := api.Op{Kind: api.OpWrite, Path: "/a", Data: "abc"}, api.Op{Kind: api.OpWrite, Path: "/a", Data: "xyz"}
	for _, f := range [][2]api.Op{{abc, xyz}, {read("/a", 2), write("/a", 0)}} {
		wantSameLists(t, [][]api.Op{{f[0]}, nil}, [][]api.Op{{f[1]}, nil})
		wantSameLists(t, [][]api.Op{ahead, {f[0]}, nil}, [][]api.Op{ahead, {f[1]}, nil})
	}
}

// P19.6

// pair is a state of a script and one of its twin: in both the same files are there, with the same buckets.
type pair struct{ a, b *tree.Tree }

func newPair(t *testing.T, c api.Config) *pair {
	t.Helper()
	a, e := tree.New(c.Files, c.Dirs, c.MaxFile)
	b, f := tree.New(c.Files, c.Dirs, c.MaxFile)
	if e != api.OK || f != api.OK {
		t.Fatalf("tree.New: %d, %d", e, f)
	}
	return &pair{a, b}
}

// twins makes a script's twin: its batches have the same classes, place by place, and slots with the same buckets, and else
// nothing in common.
type twins struct {
	r            *rand.Rand
	c            api.Config
	made         int // names that were given
	counts, open *pair
	others       map[[2]int]int // how often an operation of one kind stands for one of another
	sizes        int            // how often a file has another size in the same bucket
}

// freshPath is a path that nothing is at, in a directory that is there.
func (w *twins) freshPath(b *tree.Tree) string {
	w.made++
	name := fmt.Sprintf("/t%d", w.made)
	if dirs := numbersOf(b, api.IsDir); len(dirs) > 0 && w.r.Intn(2) == 0 {
		if dir := pathOf(b, api.IsDir, dirs[w.r.Intn(len(dirs))]); strings.Count(dir, "/") < api.MaxDepth {
			return dir + name
		}
	}
	return name
}

func numbersOf(x *tree.Tree, kind int) []int {
	var numbers []int
	for _, n := range x.State().Nodes {
		if n.Kind == kind {
			numbers = append(numbers, n.Number)
		}
	}
	return numbers
}

// pathOf climbs from a node up to the root.
func pathOf(x *tree.Tree, kind, number int) string {
	for _, n := range x.State().Nodes {
		if n.Kind != kind || n.Number != number {
			continue
		}
		if n.Parent == 0 {
			return "/" + n.Name
		}
		return pathOf(x, api.IsDir, n.Parent) + "/" + n.Name
	}
	return ""
}

// nothing is an operation without an effect on this tree as it is now: it may change directories and names.
func (w *twins) nothing(b *tree.Tree) api.Op {
	for {
		some := []api.Op{someIdle(w.r), stat("/"), list("/"), mkdir(w.freshPath(b)), write("/none/there", 5), create("/"), remove("/none")}
		for _, kind := range []int{api.IsDir, api.IsFile} {
			if numbers := numbersOf(b, kind); len(numbers) > 0 {
				is := pathOf(b, kind, numbers[w.r.Intn(len(numbers))])
				some = append(some, rename(is, w.freshPath(b)), rename(is, is), api.Op{Kind: api.OpRmdir, Path: is}, write(is, w.c.MaxFile+1), cut(is, w.c.MaxFile+1))
			}
		}
		op := some[w.r.Intn(len(some))]
		if _, e := b.Copy().Do(op); e.Kind == api.EffNone {
			return op
		}
	}
}

// used is an operation on a file's content; behind it the file has that size.
func (w *twins) used(b *tree.Tree, file, size int) api.Op {
	at, was := pathOf(b, api.IsFile, file), sizeOf(b, file)
	some := []api.Op{cut(at, size)}
	if size == was {
		some = append(some, read(at, w.r.Intn(9)), write(at, 0), api.Op{Kind: api.OpRead, Path: at, At: math.MaxInt, N: math.MaxInt})
	}
	if size > was {
		from := w.r.Intn(size)
		some = append(some, write(at, size), api.Op{Kind: api.OpWrite, Path: at, At: from, Data: strings.Repeat("z", size-from)})
	}
	if size == was && size > 0 {
		some = append(some, write(at, 1+w.r.Intn(size)))
	}
	return some[w.r.Intn(len(some))]
}

func (w *twins) gone(b *tree.Tree, file int) api.Op {
	is := pathOf(b, api.IsFile, file)
	for _, other := range numbersOf(b, api.IsFile) {
		if other != file && w.r.Intn(3) == 0 {
			return rename(pathOf(b, api.IsFile, other), is)
		}
	}
	return remove(is)
}

// likeSize is another size of the same bucket.
func (w *twins) likeSize(size int) int {
	var sizes []int
	for s := range w.c.MaxFile + 1 {
		if bucketOf(w.c, s) == bucketOf(w.c, size) {
			sizes = append(sizes, s)
		}
	}
	return sizes[w.r.Intn(len(sizes))]
}

func fileOf(e api.Effect) int {
	if e.Kind == api.EffOver {
		return e.Gone
	}
	return e.File
}

func isUse(kind int) bool {
	return kind == api.EffRead || kind == api.EffWrite || kind == api.EffCut
}

// batch is the twin of a batch that leads from a state, and the two states behind it.
func (w *twins) batch(t *testing.T, from *pair, ops []api.Op) ([]api.Op, *pair) {
	t.Helper()
	to := &pair{from.a.Copy(), from.b.Copy()}
	var effects []api.Effect
	for _, op := range ops {
		_, e := to.a.Do(op)
		effects = append(effects, e)
	}
	var other []api.Op
	for i, e := range effects {
		var op api.Op
		switch {
		case e.Kind == api.EffNone:
			op = w.nothing(to.b)
		case e.Kind == api.EffMade:
			op = create(w.freshPath(to.b))
		case isUse(e.Kind):
			// Behind its last use the file has the bucket that the other script's file has behind the batch; ahead of it any size.
			size := w.r.Intn(w.c.MaxFile + 1)
			if !slices.ContainsFunc(effects[i+1:], func(x api.Effect) bool { return x.File == e.File && isUse(x.Kind) }) {
				size = w.likeSize(sizeOf(to.a, e.File))
			}
			op = w.used(to.b, e.File, size)
		default:
			op = w.gone(to.b, fileOf(e))
		}
		_, is := to.b.Do(op)
		if isUse(is.Kind) != isUse(e.Kind) || is.Kind == api.EffNone != (e.Kind == api.EffNone) || e.Kind != api.EffNone && fileOf(is) != fileOf(e) {
			t.Fatalf("the twin %+v of %+v has the effect %+v, not of the class of %+v", op, ops[i], is, e)
		}
		w.others[[2]int{ops[i].Kind, op.Kind}]++
		other = append(other, op)
	}
	for _, file := range numbersOf(to.a, api.IsFile) {
		x, y := sizeOf(to.a, file), sizeOf(to.b, file)
		if bucketOf(w.c, x) != bucketOf(w.c, y) {
			t.Fatalf("the file %d has %d bytes, and %d in the twin", file, x, y)
		}
		if x != y {
			w.sizes++
		}
	}
	for len(other) > 0 && effects[len(other)-1].Kind == api.EffNone && !movesNames(other[len(other)-1]) && w.r.Intn(3) == 0 {
		other = other[:len(other)-1]
	}
	for len(other) < w.c.Slots && w.r.Intn(3) == 0 {
		op := w.nothing(to.b)
		to.b.Do(op)
		other = append(other, op)
	}
	return other, to
}

// movesNames: without it the twin's tree would be another one.
func movesNames(op api.Op) bool {
	return op.Kind == api.OpMkdir || op.Kind == api.OpRename || op.Kind == api.OpRmdir
}

// twin is an act's twin; the fate leads both scripts on.
func (w *twins) twin(t *testing.T, a api.Act, fate int) api.Act {
	t.Helper()
	other := someAct(w.r, w.c)
	other.Kind = a.Kind
	var candidate *pair
	switch {
	case a.Kind == api.ActFuse:
		other.I = a.I
	case a.Kind == api.ActEdit:
		other.Edit = a.Edit
	case a.Kind == api.ActFormat:
		candidate = newPair(t, w.c)
	case a.Kind == api.ActBatch && len(a.Ops) > w.c.Slots:
		other.Ops = make([]api.Op, w.c.Slots+1+w.r.Intn(5))
	case a.Kind == api.ActBatch && w.counts != nil:
		other.Ops, candidate = w.batch(t, w.counts, a.Ops)
	}
	switch {
	case fate == api.FateDone && candidate != nil:
		w.counts, w.open = candidate, nil
	case fate == api.FateDone && a.Kind == api.ActRecover && w.open != nil:
		w.counts, w.open = w.open, nil
	case fate == api.FateOpen && candidate != nil:
		w.open = candidate
	case fate == api.FateClear && (a.Kind == api.ActFormat || a.Kind == api.ActRecover || a.Kind == api.ActBatch):
		w.open = nil
	}
	return other
}

func TestClassesAndBucketsAreAllThatLeaks(t *testing.T) {
	r := rand.New(rand.NewSource(1910))
	others, sizes := map[[2]int]int{}, 0
	for range 2500 {
		c := someConfig(r)
		script, fates := someScript(r, c)
		w := &twins{r: r, c: c, others: others}
		var other []api.Act
		for i, a := range script {
			other = append(other, w.twin(t, a, fates[i]))
		}
		want := hintsOf(t, c, script, fates)
		for i, h := range hintsOf(t, c, other, fates) {
			if !sameHint(h, want[i]) {
				t.Fatalf("%+v: the hint %d of %+v is %+v, of %+v %+v", c, i, script, want[i], other, h)
			}
		}
		sizes += w.sizes
	}
	for _, kinds := range [][2]int{
		{api.OpRead, api.OpWrite}, {api.OpRead, api.OpCut}, {api.OpWrite, api.OpRead}, {api.OpWrite, api.OpCut}, {api.OpCut, api.OpRead},
		{api.OpCut, api.OpWrite}, {api.OpRemove, api.OpRename}, {api.OpRename, api.OpRemove}, {api.OpCreate, api.OpMkdir},
		{api.OpMkdir, api.OpStat}, {api.OpStat, api.OpMkdir}, {api.OpMkdir, api.OpRename}, {api.OpRename, api.OpStat},
	} {
		if others[kinds] < 15 {
			t.Errorf("the kind %d stood %d times for %d: too few to say something", kinds[1], others[kinds], kinds[0])
		}
	}
	if sizes < 300 {
		t.Errorf("%d files of another size: too few to say something", sizes)
	}
}

// Whether there are more operations than slots is told, how many there are then is not: nor how many files.
func TestTooManyOperations(t *testing.T) {
	for _, n := range []int{4, 5, 64, 1000} {
		var ops []api.Op
		for i := range n {
			ops = append(ops, create(fmt.Sprintf("/%d", i)))
		}
		o := mustOf(t, small(), F(), B(ops...), B(ops[:3]...), B(ops...), B())
		wantKind(t, o, api.ActFormat)
		done(t, o)
		wantTouches(t, o)
		done(t, o)
		wantTouches(t, o, 0, 16, 1, 16, 2, 16)
		done(t, o)
		wantTouches(t, o)
		open(t, o)
		wantTouches(t, o, 3, 16, 4, 16, 2, 16)
	}
}

// What is told, is told: which row comes again, and in which bucket; and that a file is made shows later on.
func TestWhatLeaks(t *testing.T) {
	wantLists(t, small(), [][]api.Op{{create("/a")}, nil}, [][]api.Touch{touchesOf(0, 16, 1, 16, 2, 16), touchesOf(3, 16, 4, 16, 1, 16)})
	wantLists(t, small(), [][]api.Op{{mkdir("/a")}, nil}, [][]api.Touch{touchesOf(0, 16, 1, 16, 2, 16), touchesOf(3, 16, 4, 16, 0, 16)})
	wantLists(t, small(), [][]api.Op{{create("/a"), write("/a", 11)}}, [][]api.Touch{touchesOf(0, 16, 1, 16, 2, 16)})
	wantLists(t, small(), [][]api.Op{{create("/a"), write("/a", 12)}}, [][]api.Touch{touchesOf(0, 18, 1, 16, 2, 16)})
	wantLists(t, small(), [][]api.Op{{create("/a"), write("/a", 100)}, {remove("/a")}, nil}, [][]api.Touch{touchesOf(0, 112, 1, 16, 2, 16), touchesOf(0, 16, 3, 16, 4, 16), touchesOf(1, 16, 2, 16, 0, 16)})
}

// The hints are what the store of a real vault shows, the power failing anywhere.

// run is a vault over commit, as far as it is alive, and its script's oracle.
type run struct {
	c     api.Config
	w     *world.World
	t     *tape.Tape
	s     *seal.Ideal
	alive bool
	state api.State
}

func newRun(t *testing.T, r *rand.Rand, c api.Config) *run {
	t.Helper()
	bytes := make([]byte, 1<<18)
	r.Read(bytes)
	x, e := tape.New(string(bytes))
	s, f := seal.NewIdeal(nil)
	if e != api.OK || f != api.OK {
		t.Fatalf("tape.New, seal.NewIdeal: %d, %d", e, f)
	}
	return &run{c: c, w: world.New(), t: x, s: s}
}

// act does an act, and tells its fate by the register.
func (x *run) act(a api.Act) int {
	was := x.w.Kept()
	var e api.Errno
	switch a.Kind {
	case api.ActFuse:
		x.w.Arm(a.I)
	case api.ActPower:
		x.w.Power()
		x.alive = false
	case api.ActFormat:
		commit.Format(x.w, x.t, x.s, x.c)
	case api.ActRecover:
		x.state, e = commit.Recover(x.w, x.s, x.c)
		x.alive = e == api.OK
	case api.ActBatch:
		if x.alive {
			var next api.State
			if next, _, e = commit.Batch(x.w, x.t, x.s, x.c, x.state, a.Ops); e == api.OK {
				x.state = next
			}
			x.alive = e == api.OK || e == api.ErrBatch
		}
	}
	is := x.w.Kept()
	switch {
	case is.Current != was.Current:
		return api.FateDone
	case is.Pending != was.Pending && is.Pending != "":
		return api.FateOpen
	case is.Pending != was.Pending:
		return api.FateClear
	}
	return api.FateNone
}

// wantShown holds the calls of a batch against its hint, as far as the power let them come.
func wantShown(t *testing.T, h api.Hint, rows []api.Object, calls []api.Call) {
	t.Helper()
	for i, touch := range h.Touches {
		if i < len(calls) && (calls[i].Kind != api.CallGet || calls[i].Name != rows[touch.Object].Name) {
			t.Fatalf("the call %d is %+v, the hint %+v", i, calls[i], h)
		}
		if i += len(h.Touches); i < len(calls) && (calls[i].Kind != api.CallPut || len(calls[i].Blob) != touch.Bucket+seal.Overhead) {
			t.Fatalf("the call %d is a %d of %d bytes, the hint %+v", i, calls[i].Kind, len(calls[i].Blob), h)
		}
	}
	if len(h.Touches) == 0 && len(calls) > 0 {
		t.Fatalf("%d calls, and no touches", len(calls))
	}
}

func TestTheStoreShowsTheTouches(t *testing.T) {
	r := rand.New(rand.NewSource(1911))
	fates, shown := [2][4]int{}, 0
	for range 400 {
		c := api.Config{Slots: 1 + r.Intn(3), Files: 1 + r.Intn(4), Dirs: 2, MaxFile: 100, Least: 16, Page: 256}
		x := newRun(t, r, c)
		script := acts(F(), R())
		for range 25 {
			switch r.Intn(6) {
			case 0:
				script = append(script, api.Act{Kind: api.ActFuse, I: r.Intn(25)})
			case 1:
				script = append(script, actOf(api.ActPower), F(), R())
			case 2:
				script = append(script, actOf(api.ActPower), R())
			default:
				script = append(script, B(someOps(r, c)...))
			}
		}
		if r.Intn(2) == 0 {
			script = append(acts(api.Act{Kind: api.ActFuse, I: r.Intn(20)}), script...)
		}
		o := mustOf(t, c, script...)
		for _, a := range script {
			calls, alive, rows := x.w.Calls(), x.alive, x.state.Pool.Objects
			h, _ := o.Next()
			fate := x.act(a)
			if a.Kind == api.ActBatch && alive {
				wantShown(t, h, rows, x.w.Trace()[calls:])
				shown++
			}
			if a.Kind == api.ActBatch {
				fates[0][fate]++
			} else {
				fates[1][fate]++
			}
			tell(t, o, fate, api.OK)
		}
	}
	if shown < 1000 || fates[0][api.FateDone] < 500 || fates[0][api.FateOpen] < 20 || fates[1][api.FateDone] < 300 || fates[1][api.FateOpen] < 10 || fates[1][api.FateClear] < 10 {
		t.Errorf("%v, %d batches shown: too few to say something", fates, shown)
	}
}

// P19.7

func TestTheGreatest(t *testing.T) {
	c := greatest()
	o := mustOf(t, c, F(), B(create("/a"), write("/a", 65536)), B(read("/a", 1)))
	wantKind(t, o, api.ActFormat)
	done(t, o)
	h, _ := o.Next()
	if len(h.Touches) != 64 || h.Touches[0] != (api.Touch{Object: 0, Bucket: 67584}) || h.Touches[63] != (api.Touch{Object: 63, Bucket: 65536}) {
		t.Errorf("Next: %+v", h)
	}
	done(t, o)
	h, _ = o.Next()
	if len(h.Touches) != 64 || h.Touches[0] != (api.Touch{Object: 0, Bucket: 67584}) || h.Touches[63] != (api.Touch{Object: 126, Bucket: 65536}) {
		t.Errorf("Next: %+v", h)
	}
}

// A long script is gone through in a time that does not grow with what lies behind it.
func TestALongScript(t *testing.T) {
	script := make([]api.Act, 200000)
	for i := range script {
		script[i] = actOf(i % 7)
	}
	o := mustOf(t, small(), script...)
	for i := range script {
		h, more := o.Next()
		if !more || h.Kind != i%7 {
			t.Fatalf("Next: %+v, %v at the act %d", h, more, i)
		}
		if i%3 > 0 {
			tell(t, o, i%4, api.OK)
		}
	}
	wantEnd(t, o)
}

func TestWildOperations(t *testing.T) {
	wild := []int{math.MinInt, -1, 0, 1, 100, 101, 1 << 40, math.MaxInt}
	texts := []string{"", "/", "/a", "a", "\x00", "/a/../b", strings.Repeat("/", 2000), strings.Repeat("/a", 600)}
	r := rand.New(rand.NewSource(1912))
	for range 300 {
		script, fates := acts(F()), []int{api.FateDone}
		var batches [][]api.Op
		for range 10 {
			var ops []api.Op
			for range r.Intn(4) {
				ops = append(ops, api.Op{Kind: r.Intn(13) - 1, Path: texts[r.Intn(8)], To: texts[r.Intn(8)], At: wild[r.Intn(8)], N: wild[r.Intn(8)], Data: texts[r.Intn(8)]})
			}
			batches = append(batches, ops)
			script, fates = append(script, B(ops...)), append(fates, api.FateDone)
		}
		want := plainLists(small(), batches)
		wantLists(t, small(), batches, want)
		for i, h := range hintsOf(t, small(), script, fates)[1:] {
			if !slices.Equal(h.Touches, want[i]) {
				t.Fatalf("the hint of %+v is %+v, want %v", batches[i], h, want[i])
			}
		}
	}
}

func TestTheSameScriptTwice(t *testing.T) {
	r := rand.New(rand.NewSource(1913))
	for range 300 {
		c := someConfig(r)
		script, fates := someScript(r, c)
		first, second := hintsOf(t, c, script, fates), hintsOf(t, c, script, fates)
		if !slices.EqualFunc(first, second, sameHint) {
			t.Fatalf("%+v: %+v and %+v", script, first, second)
		}
	}
}

// What was asked for and told is let go: an oracle keeps no more than what is still to come.
func TestNothingIsKeptOfWhatWasTold(t *testing.T) {
	o := mustOf(t, small(), F(), B(create("/a")), B(), api.Act{Kind: api.ActPower, Ops: []api.Op{create("/b")}, I: 5, Edit: api.Edit{Name: "n"}})
	whole := o.script.left
	if last := whole[3]; last.ops != nil || !sameHint(last.hint, api.Hint{Kind: api.ActPower}) {
		t.Errorf("of an ActPower %+v is kept", last)
	}
	for i := range whole {
		if _, more := o.Next(); !more {
			t.Fatalf("there is no act %d", i)
		}
		if !reflect.DeepEqual(whole[i], act{}) || len(o.script.left) != len(whole)-i-1 || o.script.asked == nil {
			t.Errorf("%+v is kept of the act %d, and %d acts", whole[i], i, len(o.script.left))
		}
		done(t, o)
		if o.script.asked != nil {
			t.Errorf("%+v is kept behind its fate", o.script.asked)
		}
	}
}

func TestManyAtOnce(t *testing.T) {
	r := rand.New(rand.NewSource(1914))
	c := someConfig(r)
	script, fates := someScript(r, c)
	for len(script) < 8 {
		script, fates = someScript(r, c)
	}
	batches := [][]api.Op{{create("/a")}, {write("/a", 20)}, nil}
	want := hintsOf(t, c, script, fates)
	var all sync.WaitGroup
	for range 8 {
		all.Go(func() {
			for range 50 {
				o, e := Of(c, script)
				if e != api.OK {
					t.Errorf("Of: %d", e)
					return
				}
				for i := range want {
					if h, more := o.Next(); !more || !sameHint(h, want[i]) {
						t.Errorf("Next: %+v, %v, want %+v", h, more, want[i])
					}
					o.Tell(fates[i])
				}
				if lists, e := List(small(), batches); e != api.OK || len(lists) != 3 || lists[1][0] != (api.Touch{Object: 0, Bucket: 26}) {
					t.Errorf("List: %v, %d", lists, e)
				}
			}
		})
	}
	all.Wait()
}
