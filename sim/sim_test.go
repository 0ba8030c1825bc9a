package sim

import (
	"fmt"
	"math"
	"math/rand"
	"reflect"
	"slices"
	"strings"
	"testing"

	"casket/api"
	"casket/index"
	"casket/leak"
	"casket/seal"
	"casket/tape"
	"casket/vault"
	"casket/world"
)

// six is the configuration F of the chapter's examples: 2 slots, 5 rows, 2 pages, a root of 96 bytes.
func six() api.Config {
	return api.Config{Slots: 2, Files: 3, Dirs: 2, MaxFile: 100, Least: 16, Page: 256}
}

// least has as little of everything as may be.
func least() api.Config { return api.Config{Slots: 1, Files: 1, Least: 16, Page: 64} }

// What the configuration F asks of the tape: a Format, and a batch whose buckets are all 16.
const (
	formatBytes = 1120
	batchBytes  = 904
)

// someBytes is a text of that many bytes in which no sixteen come twice.
func someBytes(n int) string {
	r, b := rand.New(rand.NewSource(int64(n))), make([]byte, n)
	r.Read(b)
	return string(b)
}

var longTape = someBytes(200000)

func hint(kind int) api.Hint   { return api.Hint{Kind: kind} }
func format() api.Hint         { return hint(api.ActFormat) }
func takeUp() api.Hint         { return hint(api.ActRecover) }
func power() api.Hint          { return hint(api.ActPower) }
func fuse(i int) api.Hint      { return api.Hint{Kind: api.ActFuse, I: i} }
func edit(e api.Edit) api.Hint { return api.Hint{Kind: api.ActEdit, Edit: e} }

// touching is a batch of touches: objects and buckets, by twos.
func touching(pairs ...int) api.Hint {
	h := hint(api.ActBatch)
	for i := 0; i < len(pairs); i += 2 {
		h.Touches = append(h.Touches, api.Touch{Object: pairs[i], Bucket: pairs[i+1]})
	}
	return h
}

// batch is one whose buckets are all 16.
func batch(rows ...int) api.Hint {
	var pairs []int
	for _, row := range rows {
		pairs = append(pairs, row, 16)
	}
	return touching(pairs...)
}

func mustNew(t *testing.T, c api.Config, bytes string) *Sim {
	t.Helper()
	s, e := New(c, bytes)
	if s == nil || e != api.OK {
		t.Fatalf("New: %v, %d", s, e)
	}
	return s
}

// made is a simulator with a vault.
func made(t *testing.T, c api.Config, bytes string) *Sim {
	t.Helper()
	s := mustNew(t, c, bytes)
	wantFate(t, s, format(), api.FateDone)
	wantFate(t, s, takeUp(), api.FateClear)
	return s
}

func wantFate(t *testing.T, s *Sim, h api.Hint, want int) {
	t.Helper()
	if fate, e := s.Act(h); fate != want || e != api.OK {
		t.Fatalf("Act(%+v): %d, %d, want the fate %d", h, fate, e, want)
	}
}

func wantErr(t *testing.T, s *Sim, h api.Hint, want api.Errno) {
	t.Helper()
	if fate, e := s.Act(h); fate != 0 || e != want {
		t.Fatalf("Act(%+v): %d, %d, want the error %d", h, fate, e, want)
	}
}

// letters is calls: a letter each, and a star behind those of the root.
func letters(calls []api.Call) string {
	var b strings.Builder
	for _, c := range calls {
		b.WriteByte(" GPDL"[c.Kind])
		if c.Name == api.RootName {
			b.WriteByte('*')
		}
	}
	return b.String()
}

// wantAct is an act's fate, and the store calls that it makes.
func wantAct(t *testing.T, s *Sim, h api.Hint, fate int, calls string) {
	t.Helper()
	from := len(s.Trace())
	wantFate(t, s, h, fate)
	if is := letters(s.Trace()[from:]); is != calls {
		t.Fatalf("Act(%+v): the calls %q, want %q", h, is, calls)
	}
}

func sameCall(a, b api.Call) bool {
	return a.Kind == b.Kind && a.Name == b.Name && a.Blob == b.Blob && a.Code == b.Code && a.Reply == b.Reply && slices.Equal(a.Names, b.Names)
}

func sameCalls(a, b []api.Call) bool { return slices.EqualFunc(a, b, sameCall) }

func left(s *Sim) int       { return s.simulator.tape.Left() }
func isAlive(s *Sim) bool   { return s.simulator.vault != nil }
func pagesOf(s *Sim) int    { return s.simulator.pages }
func calls(s *Sim) int      { return s.simulator.Calls() }
func tagOf(b string) string { return b[max(len(b)-16, 0):] }

// What follows does the document's words once more, from top to bottom, over lists that are gone through, against which the
// simulator is held, act by act. The layers below are taken for what they say.

type plainRoot struct {
	tag         string
	rows, pages []api.Ref
}

type plainSim struct {
	c       api.Config
	rows, m int
	w       *world.World
	t       *tape.Tape
	s       *seal.Ideal
	roots   []plainRoot
	alive   bool
	vault   plainRoot

	namesAgain, coinsAgain int // what was drawn once more
}

func newPlain(t *testing.T, c api.Config, bytes string) *plainSim {
	t.Helper()
	m, e := index.Pages(c)
	x, f := tape.New(bytes)
	s, g := seal.NewIdeal(nil)
	if e != api.OK || f != api.OK || g != api.OK {
		t.Fatalf("index.Pages, tape.New, seal.NewIdeal: %d, %d, %d", e, f, g)
	}
	return &plainSim{c: c, rows: c.Files + c.Slots, m: m, w: world.New(), t: x, s: s}
}

// plainLeast is the bucket of the greater one of 5 and Least.
func plainLeast(c api.Config) int {
	n, e, s := c.Least, 0, 1
	for 1<<(e+1) <= n {
		e++
	}
	for 1<<s <= e {
		s++
	}
	for n%(1<<(e-s)) != 0 {
		n++
	}
	return n
}

func (p *plainSim) mayBe(h api.Hint) bool {
	if h.Kind != api.ActBatch || len(h.Touches) == 0 {
		return true
	}
	for i, t := range h.Touches {
		if t.Object < 0 || t.Object > p.rows-1 || t.Bucket < plainLeast(p.c) || t.Bucket > 1048536 {
			return false
		}
		for _, other := range h.Touches[:i] {
			if other.Object == t.Object {
				return false
			}
		}
	}
	return len(h.Touches) == p.c.Slots
}

func (p *plainSim) act(h api.Hint) (int, api.Errno) {
	if !p.mayBe(h) {
		return 0, api.ErrArg
	}
	switch h.Kind {
	case api.ActFormat:
		return p.format(), api.OK
	case api.ActRecover:
		return p.takeUp(), api.OK
	case api.ActBatch:
		return p.batch(h.Touches), api.OK
	case api.ActFuse:
		p.w.Arm(h.I)
	case api.ActPower:
		p.w.Power()
		p.alive = false
	case api.ActEdit:
		if e := h.Edit; e.Before >= 0 && e.Before <= 1<<40 {
			e.Before += p.w.Calls()
			p.w.Plan(e)
		}
	}
	return api.FateNone, api.OK
}

// draw is names, and coins of these sizes.
func (p *plainSim) draw(taken []string, names int, sizes []int) ([]string, []string, bool) {
	var n, coins []string
	for len(n) < names {
		x, e := p.t.Draw(16)
		if e != api.OK {
			return nil, nil, false
		}
		if slices.Contains(taken, x) || slices.Contains(n, x) {
			p.namesAgain++
			continue
		}
		n = append(n, x)
	}
	for len(coins) < len(sizes) {
		x, e := p.t.Draw(sizes[len(coins)] + 40)
		if e != api.OK {
			return nil, nil, false
		}
		if !p.s.Fresh(x) || slices.ContainsFunc(coins, func(y string) bool { return tagOf(y) == tagOf(x) }) {
			p.coinsAgain++
			continue
		}
		coins = append(coins, x)
	}
	return n, coins, true
}

func (p *plainSim) sizes(buckets []int) []int {
	sizes := slices.Clone(buckets)
	for range p.m {
		sizes = append(sizes, p.c.Page)
	}
	return append(sizes, 5+27+32*p.m)
}

// lay seals all, knows the root, and puts all. It tells how far it came: 0 ahead of Pend, 1 behind it, 2 behind Commit.
func (p *plainSim) lay(names, coins []string, sizes []int, rows []api.Ref, touched []int) (plainRoot, int) {
	names = append(slices.Clone(names), "root")
	root := plainRoot{rows: slices.Clone(rows)}
	for i, name := range names {
		kind := api.KindData
		if i >= len(touched) {
			kind = api.KindPage
		}
		if i == len(names)-1 {
			kind = api.KindRoot
		}
		if _, e := p.s.Seal(kind, name, string(make([]byte, sizes[i])), coins[i]); e != api.OK {
			panic(fmt.Sprintf("Seal: %d", e))
		}
		ref := api.Ref{Name: name, Tag: tagOf(coins[i])}
		switch kind {
		case api.KindData:
			root.rows[touched[i]] = ref
		case api.KindPage:
			root.pages = append(root.pages, ref)
		default:
			root.tag = ref.Tag
		}
	}
	p.roots = append(p.roots, root)
	for i := range names[:len(names)-1] {
		if p.w.Put(names[i], coins[i]) != api.OK {
			return root, 0
		}
	}
	if p.w.Pend(root.tag) != api.OK {
		return root, 0
	}
	if p.w.Put("root", coins[len(coins)-1]) != api.OK || p.w.Commit() != api.OK {
		return root, 1
	}
	return root, 2
}

func (p *plainSim) format() int {
	r, e := p.w.Load()
	if e != api.OK || r.Stopped || r.Current != "" {
		return api.FateNone
	}
	var buckets, all []int
	for i := range p.rows {
		buckets, all = append(buckets, plainLeast(p.c)), append(all, i)
	}
	sizes := p.sizes(buckets)
	names, coins, ok := p.draw(nil, p.rows+p.m, sizes)
	if !ok {
		return api.FateNone
	}
	if r.Pending != "" && p.w.Forget() != api.OK {
		return api.FateNone
	}
	listed, e := p.w.List()
	if e != api.OK {
		return api.FateClear
	}
	for _, name := range listed {
		if p.w.Delete(name) == api.ErrDown {
			return api.FateClear
		}
	}
	_, far := p.lay(names, coins, sizes, make([]api.Ref, p.rows), all)
	return []int{api.FateClear, api.FateOpen, api.FateDone}[far]
}

func (p *plainSim) takeUp() int {
	p.alive = false
	r, e := p.w.Load()
	if e != api.OK || r.Stopped || r.Current == "" && r.Pending == "" {
		return api.FateNone
	}
	refused := func() int {
		if r.Current != "" {
			p.w.Stop()
		}
		return api.FateNone
	}
	blob, e := p.w.Get("root")
	if e == api.ErrDown {
		return api.FateNone
	}
	if e == api.ErrNone || len(blob) < 16 {
		return refused()
	}
	isNew := r.Pending != "" && tagOf(blob) == r.Pending
	isOld := !isNew && r.Current != "" && tagOf(blob) == r.Current
	if !isNew && !isOld {
		return refused()
	}
	if _, e := p.s.Open(api.KindRoot, "root", blob); e != api.OK {
		return refused()
	}
	var root plainRoot
	for _, x := range p.roots {
		if x.tag == tagOf(blob) {
			root = x
		}
	}
	for _, page := range root.pages {
		blob, e := p.w.Get(page.Name)
		if e == api.ErrDown {
			return api.FateNone
		}
		if _, f := p.s.Open(api.KindPage, page.Name, blob); e == api.ErrNone || f != api.OK || tagOf(blob) != page.Tag {
			return refused()
		}
	}
	if isNew && p.w.Commit() != api.OK || isOld && r.Pending != "" && p.w.Forget() != api.OK {
		return api.FateNone
	}
	p.alive = p.sweep(root)
	if p.alive {
		p.vault = root
	}
	if isNew {
		return api.FateDone
	}
	return api.FateClear
}

func plainNames(root plainRoot) []string {
	var names []string
	for _, ref := range slices.Concat(root.rows, root.pages) {
		names = append(names, ref.Name)
	}
	return names
}

func (p *plainSim) sweep(root plainRoot) bool {
	listed, e := p.w.List()
	if e != api.OK {
		return false
	}
	own := append(plainNames(root), "root")
	for _, name := range own {
		if !slices.Contains(listed, name) {
			p.w.Stop()
			return false
		}
	}
	for _, name := range listed {
		if !slices.Contains(own, name) && p.w.Delete(name) == api.ErrDown {
			return false
		}
	}
	return true
}

func (p *plainSim) batch(touches []api.Touch) int {
	if len(touches) == 0 || !p.alive {
		return api.FateNone
	}
	var buckets, touched []int
	for _, t := range touches {
		buckets, touched = append(buckets, t.Bucket), append(touched, t.Object)
	}
	sizes := p.sizes(buckets)
	names, coins, ok := p.draw(plainNames(p.vault), p.c.Slots+p.m, sizes)
	if !ok {
		return api.FateNone
	}
	p.alive = false
	for _, row := range touched {
		ref := p.vault.rows[row]
		blob, e := p.w.Get(ref.Name)
		if e == api.ErrDown {
			return api.FateNone
		}
		if _, f := p.s.Open(api.KindData, ref.Name, blob); e == api.ErrNone || f != api.OK || tagOf(blob) != ref.Tag {
			p.w.Stop()
			return api.FateNone
		}
	}
	next, far := p.lay(names, coins, sizes, p.vault.rows, touched)
	if far < 2 {
		return []int{api.FateNone, api.FateOpen}[far]
	}
	var old []string
	for _, row := range touched {
		old = append(old, p.vault.rows[row].Name)
	}
	for _, page := range p.vault.pages {
		old = append(old, page.Name)
	}
	for _, name := range old {
		if p.w.Delete(name) == api.ErrDown {
			return api.FateDone
		}
	}
	p.alive, p.vault = true, next
	return api.FateDone
}

// inStep does an act with both, and holds against each other all that can be seen, and what is kept.
func (p *plainSim) inStep(t *testing.T, s *Sim, h api.Hint) int {
	t.Helper()
	from := p.w.Calls()
	want, wantE := p.act(h)
	fate, e := s.Act(h)
	if fate != want || e != wantE {
		t.Fatalf("Act(%+v): %d, %d, want %d, %d", h, fate, e, want, wantE)
	}
	if is, was := s.Trace(), p.w.Trace(); len(is) != len(was) || !sameCalls(is[from:], was[from:]) {
		t.Fatalf("Act(%+v): the calls %q, want %q", h, letters(is[min(from, len(is)):]), letters(was[from:]))
	}
	x := s.simulator
	if x.Kept() != p.w.Kept() || x.Down() != p.w.Down() || x.tape.Left() != p.t.Left() || isAlive(s) != p.alive {
		t.Fatalf("Act(%+v): %+v, %v, %d, %v, want %+v, %v, %d, %v", h, x.Kept(), x.Down(), x.tape.Left(), isAlive(s), p.w.Kept(), p.w.Down(), p.t.Left(), p.alive)
	}
	if p.alive && !(slices.Equal(x.vault.rows, p.vault.rows) && slices.Equal(x.vault.pages, p.vault.pages)) {
		t.Fatalf("Act(%+v): the vault knows other names or tags", h)
	}
	return fate
}

// end holds the sealers' tables and all traces against each other.
func (p *plainSim) end(t *testing.T, s *Sim) {
	t.Helper()
	if !slices.Equal(s.simulator.sealer.Table(), p.s.Table()) {
		t.Fatal("other blobs were sealed, or in another order")
	}
	if !sameCalls(s.Trace(), p.w.Trace()) {
		t.Fatal("the whole trace is another one")
	}
}

// machine is chapter 23's, over the ideal sealer.
type machine struct {
	c api.Config
	w *world.World
	t *tape.Tape
	s *seal.Ideal
	v *vault.Vault
}

func newMachine(t *testing.T, c api.Config, bytes string) *machine {
	t.Helper()
	x, e := tape.New(bytes)
	s, f := seal.NewIdeal(nil)
	if e != api.OK || f != api.OK {
		t.Fatalf("tape.New, seal.NewIdeal: %d, %d", e, f)
	}
	return &machine{c: c, w: world.New(), t: x, s: s}
}

func (m *machine) do(a api.Act) api.Errno {
	e := api.OK
	switch a.Kind {
	case api.ActFormat:
		e = vault.Format(m.w, m.t, m.s, m.c)
	case api.ActRecover:
		m.v, e = vault.Recover(m.w, m.t, m.s, m.c)
	case api.ActBatch:
		if m.v == nil {
			return api.ErrDead
		}
		_, e = m.v.Batch(a.Ops...)
	case api.ActFuse:
		e = m.w.Arm(a.I)
	case api.ActPower:
		m.w.Power()
		m.v = nil
	case api.ActEdit:
		x := a.Edit
		if x.Before < 0 || x.Before > 1<<40 {
			return api.ErrEdit
		}
		x.Before += m.w.Calls()
		e = m.w.Plan(x)
	}
	return e
}

func mustOracle(t *testing.T, c api.Config, script []api.Act) *leak.Oracle {
	t.Helper()
	o, e := leak.Of(c, script)
	if e != api.OK {
		t.Fatalf("leak.Of: %d", e)
	}
	return o
}

func mustRun(t *testing.T, c api.Config, bytes string, script []api.Act) []api.Call {
	t.Helper()
	trace, e := Run(mustOracle(t, c, script), c, bytes)
	if e != api.OK {
		t.Fatalf("Run: %d", e)
	}
	return trace
}

// wantTheTrace is P20.7's, act by act and of the whole. It tells what the machine answered.
func wantTheTrace(t *testing.T, c api.Config, bytes string, script []api.Act) []api.Errno {
	t.Helper()
	m, s, o := newMachine(t, c, bytes), mustNew(t, c, bytes), mustOracle(t, c, script)
	var codes []api.Errno
	for i, a := range script {
		from := m.w.Calls()
		codes = append(codes, m.do(a))
		h, _ := o.Next()
		fate, e := s.Act(h)
		if f := o.Tell(fate); e != api.OK || f != api.OK {
			t.Fatalf("%+v: the act %d: %d, %d", c, i, e, f)
		}
		is, want := s.simulator, m.w.Trace()
		if is.Calls() != len(want) || !sameCalls(s.Trace()[from:], want[from:]) {
			t.Fatalf("%+v: the act %d of %+v: the calls %q, want %q", c, i, script, letters(s.Trace()[from:]), letters(want[from:]))
		}
		alive := m.v != nil && m.v.Code() == api.OK
		if is.tape.Left() != m.t.Left() || is.Kept() != m.w.Kept() || is.Down() != m.w.Down() || isAlive(s) != alive {
			t.Fatalf("%+v: the act %d of %+v: %d bytes are left, alive %v; the machine has %d, %v", c, i, script, is.tape.Left(), isAlive(s), m.t.Left(), alive)
		}
	}
	m.wantZeros(t, s)
	if !sameCalls(mustRun(t, c, bytes, script), m.w.Trace()) {
		t.Fatalf("%+v: Run of %+v is not the machine's trace", c, script)
	}
	return codes
}

// wantZeros is P20.5's: the simulator seals as many bytes 0 as the machine seals bytes.
func (m *machine) wantZeros(t *testing.T, s *Sim) {
	t.Helper()
	is, want := s.simulator.sealer.Table(), m.s.Table()
	for i := range want {
		want[i].Text = string(make([]byte, len(want[i].Text)))
	}
	if !slices.Equal(is, want) {
		t.Fatal("what the simulator sealed is not as many bytes 0, or lies elsewhere")
	}
}

// The examples of the chapter.

func TestExamples1To3(t *testing.T) {
	s := mustNew(t, six(), longTape)
	wantAct(t, s, takeUp(), api.FateNone, "")
	wantAct(t, s, format(), api.FateDone, "LPPPPPPPP*")
	wantAct(t, s, format(), api.FateNone, "")
	wantAct(t, s, takeUp(), api.FateClear, "G*GGL")
	from := calls(s)
	wantAct(t, s, batch(0, 1), api.FateDone, "GGPPPPP*DDDD")
	if l := s.Trace()[from:]; len(l[2].Blob) != 56 || len(l[3].Blob) != 56 {
		t.Errorf("Puts of %d and %d bytes", len(l[2].Blob), len(l[3].Blob))
	}
	wantAct(t, s, batch(), api.FateNone, "")
	for _, h := range []api.Hint{batch(0), batch(0, 0), batch(5, 1), touching(0, 15, 1, 16)} {
		wantErr(t, s, h, api.ErrArg)
	}
}

func TestExample4(t *testing.T) {
	s := made(t, six(), longTape)
	wantAct(t, s, fuse(8), api.FateNone, "")
	wantAct(t, s, batch(0, 1), api.FateOpen, "GGPPPPP*")
	wantAct(t, s, batch(0, 1), api.FateNone, "")
	wantAct(t, s, power(), api.FateNone, "")
	wantAct(t, s, takeUp(), api.FateDone, "G*GGLDDDD")
	s = made(t, six(), longTape)
	wantAct(t, s, fuse(7), api.FateNone, "")
	wantAct(t, s, batch(0, 1), api.FateOpen, "GGPPPP")
	wantAct(t, s, power(), api.FateNone, "")
	wantAct(t, s, takeUp(), api.FateClear, "G*GGLDDDD")
}

func TestExample5(t *testing.T) {
	s := made(t, six(), longTape)
	wantAct(t, s, edit(api.Edit{Before: 1, Kind: api.EditDrop}), api.FateNone, "")
	wantAct(t, s, batch(1, 0), api.FateNone, "GG")
	for range 2 {
		wantAct(t, s, takeUp(), api.FateNone, "")
		wantAct(t, s, format(), api.FateNone, "")
		wantAct(t, s, batch(2, 3), api.FateNone, "")
	}
}

func TestExample6(t *testing.T) {
	s := mustNew(t, six(), longTape[:formatBytes])
	wantAct(t, s, format(), api.FateDone, "LPPPPPPPP*")
	wantAct(t, s, takeUp(), api.FateClear, "G*GGL")
	wantAct(t, s, batch(0, 1), api.FateNone, "")
	if left(s) != 0 || !isAlive(s) {
		t.Errorf("%d bytes are left, alive: %v", left(s), isAlive(s))
	}
}

func TestExample7(t *testing.T) {
	if l, e := Run(nil, six(), ""); l != nil || e != api.ErrNil {
		t.Errorf("Run without an oracle: %v, %d", l, e)
	}
	c := six()
	c.Page = 63
	if s, e := New(c, ""); s != nil || e != api.ErrConfig {
		t.Errorf("New with Page 63: %v, %d", s, e)
	}
}

// P20.1

func everyKind() []api.Hint {
	kinds := []api.Hint{format(), takeUp(), batch(0, 1), batch(), batch(9, 9), fuse(3), power(), edit(api.Edit{Kind: 1})}
	return append(kinds, hint(0), hint(7), hint(-1), hint(math.MinInt), hint(math.MaxInt))
}

func TestSimulatorsThatNoCallMade(t *testing.T) {
	for _, s := range []*Sim{nil, {}} {
		for _, h := range everyKind() {
			wantErr(t, s, h, api.ErrNil)
			if l := s.Trace(); len(l) != 0 {
				t.Errorf("the trace %+v", l)
			}
		}
	}
}

func TestACopyIsTheSameSimulator(t *testing.T) {
	s := mustNew(t, six(), longTape)
	other := *s
	wantFate(t, s, format(), api.FateDone)
	wantFate(t, &other, takeUp(), api.FateClear)
	wantFate(t, s, batch(0, 1), api.FateDone)
	wantAct(t, &other, batch(0, 1), api.FateDone, "GGPPPPP*DDDD")
	if !sameCalls(s.Trace(), other.Trace()) {
		t.Error("a copy tells another trace")
	}
}

func TestTheTraceIsNewMemory(t *testing.T) {
	s := made(t, six(), longTape)
	wantFate(t, s, takeUp(), api.FateClear)
	script := []api.Act{{Kind: api.ActFormat}, {Kind: api.ActRecover}, {Kind: api.ActRecover}}
	want := mustRun(t, six(), longTape, script)
	for range 2 {
		for _, l := range [][]api.Call{s.Trace(), s.Trace(), mustRun(t, six(), longTape, script)} {
			if !sameCalls(l, want) {
				t.Fatalf("the trace %q", letters(l))
			}
			for i := range l {
				for j := range l[i].Names[:cap(l[i].Names)] {
					l[i].Names[:cap(l[i].Names)][j] = "spoilt"
				}
				l[i] = api.Call{Kind: api.CallPut, Name: "spoilt"}
			}
			clear(l[len(l):cap(l)])
		}
	}
	wantAct(t, s, batch(0, 1), api.FateDone, "GGPPPPP*DDDD")
}

func TestHintsAreLeftAndNotKept(t *testing.T) {
	s, p := mustNew(t, six(), longTape), newPlain(t, six(), longTape)
	for _, h := range []api.Hint{format(), takeUp(), batch(0, 4), touching(3, 20, 0, 17), batch(9, 9), takeUp(), batch(4, 3)} {
		handed := h
		handed.Touches = append(slices.Clone(h.Touches), api.Touch{Object: 7, Bucket: 8}, api.Touch{Object: 9, Bucket: 10})[:len(h.Touches)]
		was := slices.Clone(handed.Touches[:cap(handed.Touches)])
		want, _ := p.act(h)
		if fate, _ := s.Act(handed); fate != want {
			t.Fatalf("Act(%+v): %d, want %d", h, fate, want)
		}
		if !slices.Equal(handed.Touches[:cap(handed.Touches)], was) {
			t.Errorf("the touches are %v, were %v", handed.Touches[:cap(handed.Touches)], was)
		}
		clear(handed.Touches[:cap(handed.Touches)])
	}
	p.end(t, s)
}

func TestNoTouchesAreNilOrEmpty(t *testing.T) {
	s := made(t, six(), longTape)
	for _, touches := range [][]api.Touch{nil, {}, make([]api.Touch, 0, 5)} {
		wantAct(t, s, api.Hint{Kind: api.ActBatch, Touches: touches}, api.FateNone, "")
	}
	if left(s) != len(longTape)-formatBytes || !isAlive(s) {
		t.Errorf("%d bytes were drawn, alive: %v", len(longTape)-left(s), isAlive(s))
	}
}

func TestManyAtOnce(t *testing.T) {
	for seed := range 16 {
		t.Run(fmt.Sprint(seed), func(t *testing.T) {
			t.Parallel()
			r := rand.New(rand.NewSource(int64(seed / 2)))
			for range 10 {
				goInStep(t, r, someConfig(r), 12)
			}
		})
	}
}

func TestSimulatorsShareNothing(t *testing.T) {
	one, other := made(t, six(), longTape), made(t, six(), longTape)
	p := newPlain(t, six(), longTape)
	p.act(format())
	p.act(takeUp())
	wantFate(t, one, fuse(5), api.FateNone)
	wantFate(t, one, batch(0, 1), api.FateNone)
	wantFate(t, one, edit(api.Edit{Kind: api.EditAdd, Name: "x"}), api.FateNone)
	for _, h := range []api.Hint{batch(0, 1), batch(2, 0), takeUp()} {
		p.inStep(t, other, h)
	}
	p.end(t, other)
}

// P20.2

func TestNewRefuses(t *testing.T) {
	long := strings.Repeat("x", api.MaxTape+1)
	for _, f := range []struct {
		name      string
		of        func(c *api.Config) *int
		low, high int
	}{
		{"Slots", func(c *api.Config) *int { return &c.Slots }, 0, 65},
		{"Files", func(c *api.Config) *int { return &c.Files }, 0, 65537},
		{"Dirs", func(c *api.Config) *int { return &c.Dirs }, -1, 4097},
		{"MaxFile", func(c *api.Config) *int { return &c.MaxFile }, -1, 65537},
		{"Least", func(c *api.Config) *int { return &c.Least }, 15, 65537},
		{"Page", func(c *api.Config) *int { return &c.Page }, 63, 65537},
	} {
		for _, n := range []int{f.low, f.high, math.MinInt, math.MaxInt} {
			c := six()
			*f.of(&c) = n
			for _, bytes := range []string{"", long} {
				if s, e := New(c, bytes); s != nil || e != api.ErrConfig {
					t.Errorf("%s %d: New: %v, %d", f.name, n, s, e)
				}
			}
		}
	}
	if s, e := New(six(), long); s != nil || e != api.ErrBig {
		t.Errorf("a tape that is too long: %v, %d", s, e)
	}
	s := mustNew(t, six(), long[:api.MaxTape])
	if left(s) != api.MaxTape || len(s.Trace()) != 0 || isAlive(s) {
		t.Errorf("a new simulator: %d bytes, %d calls", left(s), len(s.Trace()))
	}
}

// P20.3

func TestHintsThatMayNotBe(t *testing.T) {
	wrong := []api.Hint{
		batch(0), batch(0, 1, 2), batch(0, 1, 2, 3, 4), batch(0, 0), batch(4, 4), batch(5, 1), batch(1, 5), batch(-1, 1), batch(1, -1),
		touching(0, 15, 1, 16), touching(0, 16, 1, 15), touching(0, 1048537, 1, 16), touching(0, 16, 1, 1048537),
		touching(0, 0, 1, 16), touching(0, -16, 1, 16), touching(0, math.MinInt, 1, 16), touching(0, 16, 1, math.MaxInt),
		batch(math.MinInt, 0), batch(0, math.MaxInt), {Kind: api.ActBatch, Touches: make([]api.Touch, 2)}, {Kind: api.ActBatch, Touches: make([]api.Touch, 100000)},
	}
	states := map[string][]api.Hint{
		"new": nil, "alive": {format(), takeUp()}, "without a vault": {format()}, "down": {format(), takeUp(), fuse(0)},
		"dead": {format(), takeUp(), fuse(1), batch(0, 1)}, "stopped": {format(), takeUp(), edit(api.Edit{Kind: api.EditDrop}), batch(0, 1)},
	}
	for name, ahead := range states {
		s, p := mustNew(t, six(), longTape), newPlain(t, six(), longTape)
		for _, h := range ahead {
			p.inStep(t, s, h)
		}
		for _, h := range wrong {
			if fate, e := s.Act(h); fate != 0 || e != api.ErrArg {
				t.Errorf("%s: Act(%+v): %d, %d", name, h, fate, e)
			}
		}
		for _, h := range []api.Hint{batch(4, 0), power(), takeUp(), batch(4, 0)} { // nothing has changed
			p.inStep(t, s, h)
		}
		p.end(t, s)
	}
}

func TestHintsAtTheirLimits(t *testing.T) {
	bytes := someBytes(3 << 20)
	s := made(t, six(), bytes)
	from := calls(s)
	wantFate(t, s, touching(4, 1048536, 0, 16), api.FateDone)
	if b := s.Trace()[from+2].Blob; len(b) != api.MaxBlob {
		t.Errorf("the greatest bucket: a blob of %d bytes", len(b))
	}
	wantFate(t, s, touching(0, 19, 4, 17), api.FateDone) // what no frame has as its size is taken, too
	for _, leastOf := range []struct{ least, bucket int }{{16, 16}, {17, 18}, {100, 104}, {65535, 65536}, {65536, 65536}} {
		c := six()
		c.Least = leastOf.least
		s := made(t, c, bytes)
		wantErr(t, s, touching(0, leastOf.bucket-1, 1, leastOf.bucket), api.ErrArg)
		wantAct(t, s, touching(0, leastOf.bucket, 1, leastOf.bucket), api.FateDone, "GGPPPPP*DDDD")
	}
}

func TestTouchesOfOtherKinds(t *testing.T) {
	bad := []api.Touch{{Object: -1, Bucket: -1}}
	s := mustNew(t, six(), longTape)
	e := api.Edit{Before: -5, Kind: 99, Put: -1}
	wantAct(t, s, api.Hint{Kind: api.ActFormat, Touches: bad, I: -7, Edit: e}, api.FateDone, "LPPPPPPPP*")
	wantAct(t, s, api.Hint{Kind: api.ActRecover, Touches: bad, I: 0, Edit: e}, api.FateClear, "G*GGL")
	h := batch(3, 0)
	h.I, h.Edit = 0, api.Edit{Kind: api.EditDrop}
	wantAct(t, s, h, api.FateDone, "GGPPPPP*DDDD")
	for _, kind := range []int{api.ActFuse, api.ActPower, api.ActEdit, 0, 7, -3, 1000} {
		wantAct(t, s, api.Hint{Kind: kind, Touches: bad, I: -1, Edit: e}, api.FateNone, "")
	}
	wantAct(t, s, takeUp(), api.FateClear, "G*GGL")
	wantAct(t, s, batch(0, 1), api.FateDone, "GGPPPPP*DDDD")
}

// P20.4

func TestKindsThatAreNone(t *testing.T) {
	s := made(t, six(), longTape)
	for _, kind := range []int{0, 7, 99, -1, math.MinInt, math.MaxInt} {
		wantAct(t, s, api.Hint{Kind: kind, Touches: batch(0, 1).Touches, I: 0, Edit: api.Edit{Kind: api.EditDrop}}, api.FateNone, "")
	}
	wantAct(t, s, batch(0, 1), api.FateDone, "GGPPPPP*DDDD")
}

func TestFuses(t *testing.T) {
	s := made(t, six(), longTape)
	wantFate(t, s, fuse(0), api.FateNone)
	for _, i := range []int{5, 0, -1, math.MinInt, math.MaxInt} { // refused while the power is off: nobody is told
		wantAct(t, s, fuse(i), api.FateNone, "")
	}
	wantAct(t, s, takeUp(), api.FateNone, "")
	wantFate(t, s, power(), api.FateNone)
	for _, i := range []int{3, -1} { // the second one takes the first one off
		wantFate(t, s, fuse(i), api.FateNone)
	}
	wantAct(t, s, takeUp(), api.FateClear, "G*GGL")
	wantFate(t, s, fuse(3), api.FateNone)
	wantFate(t, s, power(), api.FateNone)
	wantAct(t, s, takeUp(), api.FateClear, "G*GGL")
	wantFate(t, s, fuse(math.MaxInt), api.FateNone)
	wantAct(t, s, batch(0, 1), api.FateDone, "GGPPPPP*DDDD")
}

func TestPowerTakesTheVault(t *testing.T) {
	s := made(t, six(), longTape)
	wantFate(t, s, power(), api.FateNone)
	wantAct(t, s, batch(0, 1), api.FateNone, "")
	if left(s) != len(longTape)-formatBytes {
		t.Error("a batch without a vault has drawn")
	}
	wantFate(t, s, takeUp(), api.FateClear)
	wantAct(t, s, batch(0, 1), api.FateDone, "GGPPPPP*DDDD")
}

func TestFormatLeavesTheVault(t *testing.T) {
	s := made(t, six(), longTape)
	wantAct(t, s, format(), api.FateNone, "")
	wantAct(t, s, batch(0, 1), api.FateDone, "GGPPPPP*DDDD")
	wantFate(t, s, fuse(0), api.FateNone)
	wantAct(t, s, format(), api.FateNone, "")
	if !isAlive(s) || left(s) != len(longTape)-formatBytes-batchBytes {
		t.Errorf("alive: %v, %d bytes were drawn", isAlive(s), len(longTape)-left(s))
	}
}

func TestRecoverTakesTheVault(t *testing.T) {
	for n, calls := range []string{"", "", "G*", "G*G", "G*GG"} {
		s := made(t, six(), longTape)
		wantFate(t, s, fuse(n), api.FateNone)
		fate := api.FateNone
		if n >= 4 { // with the last page it is at step 4
			fate = api.FateClear
		}
		wantAct(t, s, takeUp(), fate, calls)
		wantFate(t, s, fuse(-1), api.FateNone)
		wantAct(t, s, batch(0, 1), api.FateNone, "")
		if isAlive(s) || left(s) != len(longTape)-formatBytes {
			t.Errorf("fuse %d: the vault is alive", n)
		}
	}
}

// The power is off, and the vault does not know: what it draws is drawn, as nothing is called ahead of the last draw.
func TestABatchWithoutPower(t *testing.T) {
	s := made(t, six(), longTape)
	wantFate(t, s, fuse(0), api.FateNone)
	wantAct(t, s, batch(0, 1), api.FateNone, "")
	if left(s) != len(longTape)-formatBytes-batchBytes || isAlive(s) {
		t.Errorf("%d bytes were drawn, alive: %v", len(longTape)-left(s), isAlive(s))
	}
	s = mustNew(t, six(), longTape)
	wantFate(t, s, fuse(0), api.FateNone)
	wantAct(t, s, format(), api.FateNone, "")
	if left(s) != len(longTape) {
		t.Error("a Format without power has drawn")
	}
}

// wantFates is what becomes of an act, a letter for each number of calls behind which the power fails.
func wantFates(t *testing.T, ahead []api.Hint, h api.Hint, want string) {
	t.Helper()
	for n, letter := range want {
		s, p := mustNew(t, six(), longTape), newPlain(t, six(), longTape)
		for _, x := range append(slices.Clone(ahead), fuse(n)) {
			p.inStep(t, s, x)
		}
		if fate := p.inStep(t, s, h); fate != strings.IndexRune("NDOC", letter) {
			t.Errorf("fuse %d, Act(%+v): the fate %d, want %c", n, h, fate, letter)
		}
		for _, x := range []api.Hint{batch(4, 3), power(), takeUp(), batch(0, 4), format(), takeUp(), batch(3, 2)} {
			p.inStep(t, s, x)
		}
		p.end(t, s)
	}
}

func TestFatesOfEveryFuse(t *testing.T) {
	vault := []api.Hint{format(), takeUp()}
	// Load, List, seven Puts, Pend, Put, Commit.
	wantFates(t, nil, format(), "N"+"C"+"CCCCCCCC"+"OO"+"D")
	// Behind one that was cut off: Load, Forget, List, eight Deletes ..
	wantFates(t, []api.Hint{fuse(11), format(), power()}, format(), "NN"+"C"+"CCCCCCCCC"+"CCCCCCC"+"OO"+"DD")
	// .. or Load, List, one Delete, without a Forget.
	wantFates(t, []api.Hint{fuse(3), format(), power()}, format(), "N"+"CC"+"CCCCCCCC"+"OO"+"DD")
	// Two Gets, four Puts, Pend, Put, Commit, four Deletes.
	wantFates(t, vault, batch(0, 1), "NNNNNNN"+"OO"+"DDDDDDD")
	// Load, three Gets, List.
	wantFates(t, vault, takeUp(), "NNNN"+"CCC")
	// The new one: Load, three Gets, Commit, List, four Deletes.
	wantFates(t, append(vault, fuse(8), batch(0, 1), power()), takeUp(), "NNNNN"+"DDDDDDD")
	// The old one, and a Pending: Load, three Gets, Forget, List, four Deletes.
	wantFates(t, append(vault, fuse(7), batch(0, 1), power()), takeUp(), "NNNNN"+"CCCCCCC")
	// The first one of all, cut off ahead of Commit, and ahead of the root.
	wantFates(t, []api.Hint{fuse(11), format(), power()}, takeUp(), "NNNNN"+"DDD")
	wantFates(t, []api.Hint{fuse(10), format(), power()}, takeUp(), "NNNN")
}

// Behind the last Delete the power is off, but nothing has failed: the vault is alive, till it finds out.
func TestPowerThatFailsBehindAllCalls(t *testing.T) {
	s := made(t, six(), longTape)
	wantFate(t, s, fuse(13), api.FateNone)
	wantAct(t, s, batch(0, 1), api.FateDone, "GGPPPPP*DDDD")
	if !isAlive(s) || !s.simulator.Down() {
		t.Errorf("alive: %v, down: %v", isAlive(s), s.simulator.Down())
	}
	wantAct(t, s, batch(0, 1), api.FateNone, "")
	if isAlive(s) {
		t.Error("a vault is alive behind a call that failed")
	}
	s = made(t, six(), longTape)
	wantFate(t, s, fuse(12), api.FateNone)
	wantAct(t, s, batch(0, 1), api.FateDone, "GGPPPPP*DDD")
	if isAlive(s) {
		t.Error("a vault is alive behind a Delete that failed")
	}
}

func TestStopNeedsPower(t *testing.T) {
	for n, kept := range []bool{false, false, true} {
		s, p := mustNew(t, six(), longTape), newPlain(t, six(), longTape)
		for _, h := range []api.Hint{format(), takeUp(), edit(api.Edit{Kind: api.EditDrop}), fuse(n), batch(0, 1)} {
			p.inStep(t, s, h)
		}
		if s.simulator.Kept().Stopped != kept {
			t.Errorf("fuse %d: stopped: %v", n, !kept)
		}
		for _, h := range []api.Hint{power(), takeUp(), format(), batch(0, 1)} {
			p.inStep(t, s, h)
		}
	}
}

func TestEditsAreCountedFromNowOn(t *testing.T) {
	for before, want := range []string{"", "G", "GG", "GGP"} {
		s := made(t, six(), longTape)
		wantFate(t, s, batch(2, 3), api.FateDone)
		wantFate(t, s, edit(api.Edit{Before: before, Kind: api.EditAdd, Name: "added", Blob: "x"}), api.FateNone)
		n := len(want)
		wantFate(t, s, fuse(n), api.FateNone)
		wantAct(t, s, batch(0, 1), api.FateNone, want)
		wantFate(t, s, power(), api.FateNone)
		wantAct(t, s, fuse(0), api.FateNone, "")
		if there := slices.ContainsFunc(s.simulator.Dump(), func(b api.Blob) bool { return b.Name == "added" }); there {
			t.Errorf("Before %d: it is there behind %d calls", before, n)
		}
		wantFate(t, s, power(), api.FateNone)
		wantFate(t, s, fuse(2), api.FateNone)
		wantAct(t, s, takeUp(), api.FateNone, "G*")
		if there := slices.ContainsFunc(s.simulator.Dump(), func(b api.Blob) bool { return b.Name == "added" }); !there {
			t.Errorf("Before %d: it is not there behind %d calls", before, n+1)
		}
	}
}

func TestEditsThatAreNone(t *testing.T) {
	s := made(t, six(), longTape)
	for _, e := range []api.Edit{
		{Before: -1, Kind: api.EditDrop}, {Before: math.MinInt, Kind: api.EditDrop}, {Before: 1<<40 + 1, Kind: api.EditDrop},
		{Before: math.MaxInt, Kind: api.EditDrop}, {Kind: 0}, {Kind: 7}, {Kind: api.EditDrop, Put: -1}, {Kind: api.EditSwap, From: -1},
		{Kind: api.EditAdd}, {Kind: api.EditAdd, Name: strings.Repeat("n", 65)}, {Kind: api.EditSet, Blob: strings.Repeat("b", api.MaxBlob+1)},
		{Kind: api.EditDrop, Put: 8}, {Kind: api.EditReplay, Put: 0, From: 8}, {Kind: api.EditRestore, From: 13},
	} {
		wantAct(t, s, edit(e), api.FateNone, "")
	}
	wantAct(t, s, takeUp(), api.FateClear, "G*GGL")
	wantAct(t, s, batch(0, 1), api.FateDone, "GGPPPPP*DDDD")
}

// A world takes api.MaxEdits edits: whether those at the limit of Before were planned shows in the next one.
func TestEditsAtTheLimit(t *testing.T) {
	for _, x := range []struct {
		before int
		drops  bool
	}{{1 << 40, false}, {1<<40 + 1, true}, {-1, true}, {math.MaxInt, true}} {
		s := made(t, six(), longTape)
		for range api.MaxEdits {
			wantFate(t, s, edit(api.Edit{Before: x.before, Kind: api.EditDrop}), api.FateNone)
		}
		wantFate(t, s, edit(api.Edit{Kind: api.EditDrop}), api.FateNone)
		if x.drops {
			wantAct(t, s, batch(0, 1), api.FateNone, "G")
		} else {
			wantAct(t, s, batch(0, 1), api.FateDone, "GGPPPPP*DDDD")
		}
	}
}

// everyEdit is one of each kind for each of the puts up to now.
func everyEdit(puts, calls int) []api.Edit {
	var edits []api.Edit
	for put := range puts {
		edits = append(edits, api.Edit{Kind: api.EditDrop, Put: put}, api.Edit{Kind: api.EditSet, Put: put, Blob: "x"})
		edits = append(edits, api.Edit{Kind: api.EditSet, Put: put, Blob: strings.Repeat("y", 56)})
		for _, from := range []int{0, put / 2, (put + 1) % puts, puts - 1} {
			edits = append(edits, api.Edit{Kind: api.EditSwap, Put: put, From: from}, api.Edit{Kind: api.EditReplay, Put: put, From: from})
		}
	}
	for from := range calls {
		edits = append(edits, api.Edit{Kind: api.EditRestore, From: from})
	}
	return append(edits, api.Edit{Kind: api.EditAdd, Name: "x"}, api.Edit{Kind: api.EditAdd, Name: "root"}, api.Edit{Kind: api.EditAdd, Name: strings.Repeat("z", 16)})
}

func TestEveryEdit(t *testing.T) {
	ahead := []api.Hint{format(), takeUp(), batch(0, 1), batch(4, 0)}
	tampered := 0
	for _, e := range everyEdit(8+2*5, 9+4+2*11) {
		for _, behind := range [][]api.Hint{
			{batch(0, 1), batch(2, 3)}, {takeUp(), batch(0, 4)}, {fuse(8), batch(1, 4), power(), takeUp()}, {fuse(7), batch(1, 4), power(), takeUp(), batch(1, 0)},
		} {
			for _, before := range []int{0, 1, 3, 6, 9} {
				s, p := mustNew(t, six(), longTape), newPlain(t, six(), longTape)
				for _, h := range ahead {
					p.act(h)
					s.Act(h)
				}
				e.Before = before
				for _, h := range append([]api.Hint{edit(e)}, behind...) {
					p.inStep(t, s, h)
				}
				p.end(t, s)
				if s.simulator.Kept().Stopped {
					tampered++
				}
			}
		}
	}
	if tampered < 500 {
		t.Errorf("tampered with %d times", tampered)
	}
}

// A blob may have the right tag, and be another one: it does not open.
func TestWhatLooksRight(t *testing.T) {
	s := made(t, six(), longTape)
	blob := s.Trace()[1].Blob
	wantFate(t, s, edit(api.Edit{Kind: api.EditSet, Put: 0, Blob: "x" + blob[1:]}), api.FateNone)
	wantAct(t, s, batch(0, 1), api.FateNone, "G")
	for _, put := range []int{5, 6, 7} { // the pages and the root
		s := made(t, six(), longTape)
		blob := s.Trace()[1+put].Blob
		wantFate(t, s, edit(api.Edit{Kind: api.EditSet, Put: put, Blob: "x" + blob[1:]}), api.FateNone)
		wantAct(t, s, takeUp(), api.FateNone, []string{"G*G", "G*GG", "G*"}[put-5])
		if !s.simulator.Kept().Stopped {
			t.Errorf("the put %d is another one, and the register is not stopped", put)
		}
	}
	for _, put := range []int{0, 1} { // a data object, and a page's blob under it
		s := made(t, six(), longTape)
		wantFate(t, s, edit(api.Edit{Kind: api.EditReplay, Put: put, From: 5 * put}), api.FateNone)
		if put == 0 {
			wantAct(t, s, batch(1, 0), api.FateDone, "GGPPPPP*DDDD")
		} else {
			wantAct(t, s, batch(1, 0), api.FateNone, "G")
		}
	}
}

// A name comes twice: the object that has it now has another tag than the old blob, which opens under that name, too.
func TestAnOlderBlobOfTheSameName(t *testing.T) {
	names, coins := longTape[:112], longTape[112:formatBytes]
	fresh := someBytes(5000)
	// The second batch touches row 2 and gives it the name that row 0 had at first: it is free again.
	bytes := names + coins + fresh[:904] + names[:16] + fresh[1000:3000]
	for _, replayed := range []bool{false, true} {
		s := made(t, six(), bytes)
		wantFate(t, s, batch(0, 1), api.FateDone)
		wantFate(t, s, batch(2, 3), api.FateDone)
		if name := s.simulator.vault.rows[2].Name; name != names[:16] {
			t.Fatalf("the row 2 has the name %x", name)
		}
		if replayed {
			wantFate(t, s, edit(api.Edit{Kind: api.EditReplay, Put: 0, From: 0}), api.FateNone)
		}
		fate := api.FateDone
		if replayed {
			fate = api.FateNone
		}
		wantFate(t, s, batch(2, 4), fate)
		if s.simulator.Kept().Stopped != replayed {
			t.Errorf("replayed: %v, stopped: %v", replayed, !replayed)
		}
	}
}

func TestWhereNoVaultEverCounted(t *testing.T) {
	s := mustNew(t, six(), longTape)
	wantFate(t, s, fuse(11), api.FateNone)
	wantAct(t, s, format(), api.FateOpen, "LPPPPPPPP*")
	wantFate(t, s, power(), api.FateNone)
	wantFate(t, s, edit(api.Edit{Kind: api.EditSet, Put: 7, Blob: "x"}), api.FateNone)
	wantAct(t, s, takeUp(), api.FateNone, "G*")
	wantFate(t, s, edit(api.Edit{Kind: api.EditDrop, Put: 7}), api.FateNone)
	wantAct(t, s, takeUp(), api.FateNone, "G*")
	wantFate(t, s, edit(api.Edit{Kind: api.EditReplay, Put: 7, From: 7}), api.FateNone)
	wantFate(t, s, edit(api.Edit{Kind: api.EditDrop, Put: 6}), api.FateNone)
	wantAct(t, s, takeUp(), api.FateNone, "G*GG")
	if k := s.simulator.Kept(); k.Stopped || k.Current != "" || k.Pending == "" {
		t.Errorf("the register: %+v", k)
	}
	from := calls(s)
	wantFate(t, s, format(), api.FateDone)
	if n := calls(s) - from; n != 1+7+8 {
		t.Errorf("the Format behind it makes %d calls", n)
	}
	wantAct(t, s, takeUp(), api.FateClear, "G*GGL")
}

// A blob that is too short for a tag has none, and so has the register: that is not the same tag.
func TestBlobsWithoutATag(t *testing.T) {
	for _, blob := range []string{"", "x", strings.Repeat("x", 15)} {
		for _, ahead := range [][]api.Hint{{format()}, {fuse(11), format(), power()}} {
			s, p := mustNew(t, six(), longTape), newPlain(t, six(), longTape)
			for _, h := range append(ahead, edit(api.Edit{Kind: api.EditSet, Put: 7, Blob: blob}), takeUp()) {
				p.inStep(t, s, h)
			}
			if from := len(s.Trace()) - 1; letters(s.Trace()[from:]) != "G*" || isAlive(s) {
				t.Errorf("a root of %d bytes is taken", len(blob))
			}
		}
	}
}

// What is missing at the List is found, and nothing is swept then; the fate is that of the register all the same.
func TestRecoverMissesAnObject(t *testing.T) {
	for put := range 8 {
		for _, n := range []int{-1, 7, 8} {
			s, p := mustNew(t, six(), longTape), newPlain(t, six(), longTape)
			for _, h := range []api.Hint{format(), takeUp(), fuse(n), batch(3, 4), power()} {
				p.inStep(t, s, h)
			}
			p.inStep(t, s, edit(api.Edit{Before: 3, Kind: api.EditDrop, Put: put}))
			p.inStep(t, s, edit(api.Edit{Before: 3, Kind: api.EditAdd, Name: "a"}))
			fate := p.inStep(t, s, takeUp())
			want := api.FateClear
			if n == 8 {
				want = api.FateDone
			}
			if fate != want || !isAlive(s) && !s.simulator.Kept().Stopped {
				t.Errorf("fuse %d, put %d: the fate %d", n, put, fate)
			}
			for _, h := range []api.Hint{batch(0, 1), takeUp()} {
				p.inStep(t, s, h)
			}
		}
	}
}

func TestADryTape(t *testing.T) {
	for n := range formatBytes + batchBytes + 2 {
		s := mustNew(t, six(), longTape[:n])
		if n < formatBytes {
			wantAct(t, s, format(), api.FateNone, "")
			wantAct(t, s, takeUp(), api.FateNone, "")
		} else {
			wantAct(t, s, format(), api.FateDone, "LPPPPPPPP*")
			wantAct(t, s, takeUp(), api.FateClear, "G*GGL")
		}
		if n >= formatBytes+batchBytes {
			wantAct(t, s, batch(0, 1), api.FateDone, "GGPPPPP*DDDD")
		}
		wantAct(t, s, batch(0, 1), api.FateNone, "")
		if left(s) != 0 && n >= formatBytes || isAlive(s) != (n >= formatBytes) {
			t.Fatalf("a tape of %d bytes: %d are left, alive: %v", n, left(s), isAlive(s))
		}
	}
}

func TestADryFormatForgetsNothing(t *testing.T) {
	s := mustNew(t, six(), longTape[:formatBytes+100])
	wantFate(t, s, fuse(11), api.FateNone)
	wantFate(t, s, format(), api.FateOpen)
	wantFate(t, s, power(), api.FateNone)
	wantAct(t, s, format(), api.FateNone, "")
	wantAct(t, s, takeUp(), api.FateDone, "G*GGL")
	wantAct(t, s, batch(0, 1), api.FateNone, "")
}

// A vault that knows a row's new name gets it by that.
func TestTheVaultKnowsTheNewNames(t *testing.T) {
	s := made(t, six(), longTape)
	for range 20 {
		from := calls(s)
		wantAct(t, s, batch(3, 0), api.FateDone, "GGPPPPP*DDDD")
		l := s.Trace()[from:]
		wantAct(t, s, batch(0, 3), api.FateDone, "GGPPPPP*DDDD")
		again := s.Trace()[from+11:]
		if again[0].Name != l[3].Name || again[1].Name != l[2].Name || again[0].Reply != l[3].Blob || again[1].Reply != l[2].Blob {
			t.Fatal("a row is not got by its new name")
		}
		if again[9].Name != l[4].Name || again[10].Name != l[5].Name {
			t.Fatal("the old pages are not deleted")
		}
	}
}

// P20.5

func TestBlobsAreTheirCoins(t *testing.T) {
	s := made(t, six(), longTape)
	wantFate(t, s, touching(4, 20, 1, 16), api.FateDone)
	sizes := [][]int{{16, 16, 16, 16, 16, 256, 256, 96}, {20, 16, 256, 256, 96}}
	var want []api.Sealed
	at := 0
	for _, list := range sizes {
		names := at
		at += 16 * (len(list) - 1)
		for i, size := range list {
			row := api.Sealed{Kind: api.KindData, Blob: longTape[at : at+size+40], Text: string(make([]byte, size))}
			if i < len(list)-1 {
				row.Name = longTape[names+16*i : names+16*i+16]
			} else {
				row.Name, row.Kind = "root", api.KindRoot
			}
			if size == 256 {
				row.Kind = api.KindPage
			}
			want = append(want, row)
			at += size + 40
		}
	}
	if !slices.Equal(s.simulator.sealer.Table(), want) {
		t.Error("what was sealed is not what was drawn")
	}
	var put []api.Blob
	for _, c := range s.Trace() {
		if c.Kind == api.CallPut {
			put = append(put, api.Blob{Name: c.Name, Blob: c.Blob})
		}
	}
	for i, row := range want {
		if put[i] != (api.Blob{Name: row.Name, Blob: row.Blob}) {
			t.Errorf("the put %d is another one", i)
		}
	}
	if left(s) != len(longTape)-at {
		t.Errorf("%d bytes were drawn, want %d", len(longTape)-left(s), at)
	}
}

// What was drawn and not sealed may be drawn again; what was sealed may not, were it put or not.
func TestSealedBehindTheGets(t *testing.T) {
	again, fresh := longTape[formatBytes:formatBytes+batchBytes], someBytes(batchBytes*2)
	for n := range 4 {
		s := made(t, six(), longTape[:formatBytes]+again+again+fresh)
		wantFate(t, s, fuse(n), api.FateNone)
		wantFate(t, s, batch(0, 1), api.FateNone)
		wantFate(t, s, power(), api.FateNone)
		wantFate(t, s, takeUp(), api.FateClear)
		wantFate(t, s, batch(0, 1), api.FateDone)
		blob := s.Trace()[calls(s)-9].Blob
		if isOld := blob == again[64:120]; isOld != (n < 2) {
			t.Errorf("fuse %d: the coins that were drawn come again: %v", n, isOld)
		}
	}
}

func TestSealedBehindTheDeletes(t *testing.T) {
	first, fresh := longTape[:formatBytes], someBytes(3*formatBytes)
	again := fresh[:formatBytes]
	for n := range 12 { // Load, Forget, List, eight Deletes, the first Put
		s := mustNew(t, six(), first+again+again+fresh[formatBytes:])
		wantFate(t, s, fuse(11), api.FateNone)
		wantFate(t, s, format(), api.FateOpen)
		wantFate(t, s, power(), api.FateNone)
		wantFate(t, s, fuse(1+n), api.FateNone)
		fate := api.FateClear
		if n == 0 {
			fate = api.FateNone
		}
		wantFate(t, s, format(), fate)
		wantFate(t, s, power(), api.FateNone)
		wantFate(t, s, format(), api.FateDone)
		l := s.Trace()
		blob := l[len(l)-8].Blob
		if isOld := blob == again[112:168]; isOld != (n < 10) {
			t.Errorf("fuse %d: the coins that were drawn come again: %v", 1+n, isOld)
		}
	}
}

func TestNamesAreDrawnAgain(t *testing.T) {
	a, b, rest := longTape[:16], longTape[16:32], longTape[32:]
	s := mustNew(t, six(), a+a+b+a+b+rest)
	wantFate(t, s, format(), api.FateDone)
	if left(s) != len(rest)-(formatBytes-32) {
		t.Errorf("Format: %d bytes were drawn", 80+len(rest)-left(s))
	}
	// Ahead of its own names a batch finds those of a row that it touches, of another one, and of a page.
	fresh := someBytes(2000)
	s = made(t, six(), longTape[:formatBytes]+longTape[:16]+longTape[64:80]+longTape[96:112]+fresh)
	wantFate(t, s, batch(0, 1), api.FateDone)
	if left(s) != len(fresh)-batchBytes || s.simulator.vault.rows[0].Name != fresh[:16] {
		t.Errorf("a batch: %d bytes are left", left(s))
	}
	// A name that no row has any more may come.
	s = made(t, six(), longTape[:formatBytes]+fresh[:batchBytes]+longTape[:16]+fresh[batchBytes:])
	wantFate(t, s, batch(0, 1), api.FateDone)
	wantFate(t, s, batch(2, 3), api.FateDone)
	if s.simulator.vault.rows[2].Name != longTape[:16] {
		t.Error("a name that was given up is not drawn")
	}
}

func TestCoinsAreDrawnAgain(t *testing.T) {
	names, coins, rest := longTape[:112], longTape[112:168], longTape[168:]
	// Twice the same in one act; and the same tag behind other bytes.
	s := mustNew(t, six(), names+coins+coins+rest[:40]+coins[40:]+rest)
	wantFate(t, s, format(), api.FateDone)
	if left(s) != len(rest)-(formatBytes-168) {
		t.Errorf("Format: %d bytes were drawn too many", left(s)-len(rest)+(formatBytes-168))
	}
	// In a batch, those of a Format.
	fresh := someBytes(2000)
	s = made(t, six(), longTape[:formatBytes]+fresh[:64]+longTape[112:168]+fresh[64:])
	wantFate(t, s, batch(0, 1), api.FateDone)
	if left(s) != len(fresh)-batchBytes {
		t.Errorf("a batch: %d bytes are left", left(s))
	}
}

// An iterator of draws that is stopped has drawn no more than it was asked for, and one that is made anew goes on behind it.
func TestDrawsAreStopped(t *testing.T) {
	s := mustNew(t, six(), "0123456789").simulator
	size := func() int { return 3 }
	for range 2 {
		for text := range s.draws(size) {
			if text != "012" && text != "345" {
				t.Errorf("drawn: %q", text)
			}
			break
		}
	}
	if s.tape.Left() != 4 {
		t.Errorf("%d bytes are left", s.tape.Left())
	}
	var all []string
	for text := range s.draws(size) {
		all = append(all, text)
	}
	if !slices.Equal(all, []string{"678"}) || s.tape.Left() != 0 {
		t.Errorf("drawn: %q, %d bytes are left", all, s.tape.Left())
	}
}

// P20.6

func TestRunRefuses(t *testing.T) {
	bad := six()
	bad.Slots = 0
	long := strings.Repeat("x", api.MaxTape+1)
	script := []api.Act{{Kind: api.ActFormat}, {Kind: api.ActRecover}, {Kind: api.ActBatch}}
	if l, e := Run(nil, bad, long); l != nil || e != api.ErrNil {
		t.Errorf("without an oracle: %v, %d", l, e)
	}
	o := mustOracle(t, six(), script)
	if l, e := Run(o, bad, long); l != nil || e != api.ErrConfig {
		t.Errorf("a configuration that may not be: %v, %d", l, e)
	}
	if l, e := Run(o, six(), long); l != nil || e != api.ErrBig {
		t.Errorf("a tape that is too long: %v, %d", l, e)
	}
	if l, e := Run(o, six(), longTape); e != api.OK || letters(l) != "LPPPPPPPP*G*GGLGGPPPPP*DDDD" {
		t.Errorf("behind what was refused: %q, %d", letters(l), e)
	}
	if l, e := Run(o, six(), longTape); len(l) != 0 || e != api.OK {
		t.Errorf("an oracle of which all was asked: %v, %d", l, e)
	}
	if l, e := Run(&leak.Oracle{}, six(), longTape); len(l) != 0 || e != api.OK {
		t.Errorf("an oracle that no call made: %v, %d", l, e)
	}
	for _, change := range []func(c *api.Config){
		func(c *api.Config) { c.Slots = 3 }, func(c *api.Config) { c.Slots = 1 }, func(c *api.Config) { c.Least = 17 },
	} {
		c := six()
		change(&c)
		if l, e := Run(mustOracle(t, six(), script), c, longTape); l != nil || e != api.ErrArg {
			t.Errorf("an oracle of another configuration than %+v: %v, %d", c, l, e)
		}
	}
}

func TestRunOfNothing(t *testing.T) {
	for _, script := range [][]api.Act{nil, {}, {{Kind: api.ActPower}}, {{Kind: api.ActBatch}, {Kind: api.ActRecover}, {Kind: 99}}} {
		if l := mustRun(t, six(), "", script); len(l) != 0 {
			t.Errorf("%v: the trace %q", script, letters(l))
		}
	}
}

// Run tells the fates: else the oracle's next hints were others.
func TestRunTellsTheFates(t *testing.T) {
	create := api.Act{Kind: api.ActBatch, Ops: []api.Op{{Kind: api.OpCreate, Path: "/a"}}}
	for n := range 14 {
		script := []api.Act{{Kind: api.ActFormat}, {Kind: api.ActRecover}, {Kind: api.ActFuse, I: n}, create, {Kind: api.ActPower}, {Kind: api.ActRecover}, {Kind: api.ActBatch}}
		trace := mustRun(t, six(), longTape, script)
		// The last batch touches the rows 2 and 3 if the one ahead of it counts, else 0 and 1.
		rows, l := trace[1:6], trace[len(trace)-11:]
		want := rows[:2]
		if n >= 8 {
			want = rows[2:4]
		}
		if l[0].Name != want[0].Name || l[1].Name != want[1].Name {
			t.Errorf("fuse %d: other rows are touched", n)
		}
	}
}

// P20.8

func TestWhatAHintShows(t *testing.T) {
	r := rand.New(rand.NewSource(208))
	for range 60 {
		c := someConfig(r)
		s := made(t, c, longTape)
		rows := map[int]api.Call{}
		for i, call := range s.Trace()[1 : 1+c.Files+c.Slots] {
			rows[i] = call
		}
		pages := s.Trace()[1+c.Files+c.Slots:][:pagesOf(s)]
		for range 5 {
			h := someTouches(r, c)
			from := calls(s)
			wantFate(t, s, h, api.FateDone)
			pages = wantShape(t, s, h, rows, pages, s.Trace()[from:])
		}
	}
}

// wantShape is a batch's calls; rows and pages are the Puts by which they came to be, and those behind the batch then.
func wantShape(t *testing.T, s *Sim, h api.Hint, rows map[int]api.Call, pages, l []api.Call) []api.Call {
	t.Helper()
	k, m := len(h.Touches), len(pages)
	taken := map[string]bool{"root": true}
	for _, call := range rows {
		taken[call.Name] = true
	}
	for _, call := range pages {
		taken[call.Name] = true
	}
	if want := strings.Repeat("G", k) + strings.Repeat("P", k+m) + "P*" + strings.Repeat("D", k+m); letters(l) != want {
		t.Fatalf("the calls %q, want %q", letters(l), want)
	}
	puts, deletes := l[k:], l[2*k+m+1:]
	for i, call := range puts[:k+m] {
		size := s.simulator.config.Page
		if i < k {
			size = h.Touches[i].Bucket
		}
		if taken[call.Name] || len(call.Name) != 16 || len(call.Blob) != size+40 {
			t.Fatalf("the put %d: a name that is taken: %v, %d bytes", i, taken[call.Name], len(call.Blob))
		}
		taken[call.Name] = true
	}
	if len(puts[k+m].Blob) != 5+27+32*m+40 {
		t.Fatalf("a root of %d bytes", len(puts[k+m].Blob))
	}
	for i, touch := range h.Touches {
		row := rows[touch.Object]
		if l[i].Name != row.Name || l[i].Reply != row.Blob || deletes[i].Name != row.Name {
			t.Fatalf("the touch %d is not of the row %d", i, touch.Object)
		}
		rows[touch.Object] = puts[i]
	}
	for i, page := range pages {
		if deletes[k+i].Name != page.Name {
			t.Fatalf("the page %d is not deleted", i)
		}
	}
	for _, call := range l {
		if call.Code != api.OK {
			t.Fatalf("a call that answers %d", call.Code)
		}
	}
	return puts[k : k+m]
}

// In step with the words, and with the machine, at random.

// someConfig has sizes of whole words of eight bytes, mostly: see weakTape.
func someConfig(r *rand.Rand) api.Config {
	c := api.Config{Slots: 1 + r.Intn(4), Files: 1 + r.Intn(4), Dirs: r.Intn(3), MaxFile: r.Intn(80), Least: 16 + 8*r.Intn(3), Page: 64 + 8*r.Intn(20)}
	if r.Intn(4) == 0 {
		c.Least, c.Page = 16+r.Intn(50), 64+r.Intn(200)
	}
	return c
}

// weakTape is made of few words of eight bytes, so that names and tags come again.
func weakTape(r *rand.Rand, n int) string {
	words := make([]string, 2+r.Intn(30))
	for i := range words {
		words[i] = someBytes(8 + i)[:8]
	}
	var b strings.Builder
	for b.Len() < n {
		b.WriteString(words[r.Intn(len(words))])
	}
	return b.String()[:n]
}

func someTape(r *rand.Rand) string {
	switch r.Intn(8) {
	case 0:
		return strings.Repeat("\x00", r.Intn(20000))
	case 1, 2, 3:
		return weakTape(r, r.Intn(60000))
	case 4:
		return longTape[r.Intn(1000):][:r.Intn(9000)]
	}
	return longTape[r.Intn(1000):][:60000]
}

func someTouches(r *rand.Rand, c api.Config) api.Hint {
	h := hint(api.ActBatch)
	for _, row := range r.Perm(c.Files + c.Slots)[:c.Slots] {
		bucket := plainLeast(c)
		if r.Intn(3) == 0 {
			bucket += r.Intn(60)
		}
		h.Touches = append(h.Touches, api.Touch{Object: row, Bucket: bucket})
	}
	return h
}

func someEdit(r *rand.Rand) api.Edit {
	e := api.Edit{Before: r.Intn(12), Kind: 1 + r.Intn(6), Put: r.Intn(40), From: r.Intn(60), Name: []string{"x", "root", longTape[:16], ""}[r.Intn(4)]}
	e.Blob = longTape[r.Intn(100):][:r.Intn(70)]
	if r.Intn(20) == 0 {
		e = api.Edit{Before: []int{-1, 1 << 40, 1<<40 + 1, math.MaxInt}[r.Intn(4)], Kind: r.Intn(9) - 1, Put: r.Intn(5) - 2, From: r.Intn(5) - 2}
	}
	return e
}

func someHint(r *rand.Rand, c api.Config, honest bool) api.Hint {
	h := someTouches(r, c)
	h.I, h.Edit = r.Intn(40)-2, someEdit(r)
	kinds := []int{api.ActFormat, api.ActRecover, api.ActRecover, api.ActBatch, api.ActBatch, api.ActBatch, api.ActBatch, api.ActFuse, api.ActPower, api.ActPower, r.Intn(12) - 2}
	if !honest {
		kinds = append(kinds, api.ActEdit)
	}
	h.Kind = kinds[r.Intn(len(kinds))]
	if honest && h.Kind == api.ActEdit {
		h.Kind = api.ActBatch
	}
	if r.Intn(12) == 0 && len(h.Touches) > 0 {
		h.Touches[r.Intn(len(h.Touches))] = api.Touch{Object: r.Intn(12) - 2, Bucket: r.Intn(40)}
	}
	if r.Intn(15) == 0 {
		h.Touches = h.Touches[:r.Intn(len(h.Touches)+1)]
	}
	return h
}

// goInStep does so many hints with a simulator and with the words; it tells how often each fate came, by the hint's kind.
func goInStep(t *testing.T, r *rand.Rand, c api.Config, hints int) (map[[2]int]int, *plainSim) {
	t.Helper()
	bytes, honest, came := someTape(r), r.Intn(2) == 0, map[[2]int]int{}
	s, p := mustNew(t, c, bytes), newPlain(t, c, bytes)
	step := func(h api.Hint) { came[[2]int{h.Kind, p.inStep(t, s, h)}]++ }
	for range r.Intn(3) {
		step(fuse(r.Intn(30)))
		step(format())
		step(power())
	}
	if r.Intn(5) > 0 {
		step(format())
		step(takeUp())
	}
	for range hints {
		step(someHint(r, c, honest))
		if p.w.Down() && r.Intn(2) == 0 {
			step(power())
			step(takeUp())
		}
	}
	p.end(t, s)
	return came, p
}

func TestInStepWithTheWords(t *testing.T) {
	r := rand.New(rand.NewSource(2004))
	came, names, coins, stopped := map[[2]int]int{}, 0, 0, 0
	for range 1500 {
		some, p := goInStep(t, r, someConfig(r), 25)
		for k, n := range some {
			came[k] += n
		}
		names += p.namesAgain
		coins += p.coinsAgain
		if p.w.Kept().Stopped {
			stopped++
		}
	}
	for kind, fates := range map[int][]int{
		api.ActFormat:  {api.FateNone, api.FateDone, api.FateOpen, api.FateClear},
		api.ActRecover: {api.FateNone, api.FateDone, api.FateClear},
		api.ActBatch:   {api.FateNone, api.FateDone, api.FateOpen},
	} {
		for _, fate := range fates {
			if came[[2]int{kind, fate}] < 20 {
				t.Errorf("of the kind %d the fate %d came %d times", kind, fate, came[[2]int{kind, fate}])
			}
		}
	}
	if names < 100 || coins < 100 || stopped < 50 {
		t.Errorf("%d names and %d coins were drawn again, %d worlds were stopped", names, coins, stopped)
	}
}

func somePath(r *rand.Rand) string {
	path := []string{"/a", "/a", "/b", "/b", "/c", "/d", "", "no path"}[r.Intn(8)]
	if path == "" || r.Intn(4) == 0 {
		path += "/e"
	}
	return path
}

func someOp(r *rand.Rand, c api.Config) api.Op {
	kinds := []int{api.OpCreate, api.OpCreate, api.OpMkdir, api.OpWrite, api.OpWrite, api.OpRename, r.Intn(14) - 1}
	op := api.Op{Kind: kinds[r.Intn(len(kinds))], Path: somePath(r), To: somePath(r), At: r.Intn(c.MaxFile+2) - 1, N: r.Intn(c.MaxFile+2) - 1}
	op.Data = longTape[:r.Intn(c.MaxFile+2)]
	if r.Intn(2) == 0 {
		op.At = 0
	}
	return op
}

func someAct(r *rand.Rand, c api.Config, honest bool) api.Act {
	h := someHint(r, c, honest)
	a := api.Act{Kind: h.Kind, I: h.I, Edit: h.Edit}
	n := r.Intn(c.Slots + 1)
	if r.Intn(10) == 0 {
		n = c.Slots + 1 + r.Intn(3)
	}
	for range n {
		a.Ops = append(a.Ops, someOp(r, c))
	}
	return a
}

func someScript(r *rand.Rand, c api.Config, n int) []api.Act {
	var script []api.Act
	honest := r.Intn(2) == 0
	if r.Intn(6) > 0 {
		script = append(script, api.Act{Kind: api.ActFormat}, api.Act{Kind: api.ActRecover})
	}
	for range n {
		a := someAct(r, c, honest)
		script = append(script, a)
		if a.Kind == api.ActFuse && r.Intn(2) == 0 {
			script = append(script, someAct(r, c, honest), api.Act{Kind: api.ActPower}, api.Act{Kind: api.ActRecover})
		}
	}
	return script
}

func TestItIsTheTrace(t *testing.T) {
	r := rand.New(rand.NewSource(2007))
	came := map[[2]int]int{}
	for range 1500 {
		c := someConfig(r)
		script := someScript(r, c, 25)
		for i, e := range wantTheTrace(t, c, someTape(r), script) {
			came[[2]int{script[i].Kind, int(e)}]++
		}
	}
	for kind, codes := range map[int][]api.Errno{
		api.ActFormat:  {api.OK, api.ErrEntropy, api.ErrDown, api.ErrTampered, api.ErrVault},
		api.ActRecover: {api.OK, api.ErrDown, api.ErrTampered, api.ErrBlank},
		api.ActBatch:   {api.OK, api.ErrEntropy, api.ErrDown, api.ErrTampered, api.ErrDead, api.ErrBatch},
		api.ActFuse:    {api.OK, api.ErrDown},
		api.ActEdit:    {api.OK, api.ErrEdit},
	} {
		for _, e := range codes {
			if came[[2]int{kind, int(e)}] < 20 {
				t.Errorf("of the kind %d the answer %d came %d times", kind, e, came[[2]int{kind, int(e)}])
			}
		}
	}
}

func write(path, data string) api.Op { return api.Op{Kind: api.OpWrite, Path: path, Data: data} }

// working is a script in which a bit of everything is done; behind each of its acts something may be put.
func working() []api.Act {
	batch := func(ops ...api.Op) api.Act { return api.Act{Kind: api.ActBatch, Ops: ops} }
	return []api.Act{
		{Kind: api.ActFormat}, {Kind: api.ActRecover},
		batch(api.Op{Kind: api.OpCreate, Path: "/a"}, write("/a", strings.Repeat("a", 40))),
		batch(api.Op{Kind: api.OpMkdir, Path: "/d"}, api.Op{Kind: api.OpRename, Path: "/a", To: "/d/a"}),
		batch(api.Op{Kind: api.OpCreate, Path: "/b"}, write("/d/a", "short")),
		batch(api.Op{Kind: api.OpRename, Path: "/d/a", To: "/b"}, api.Op{Kind: api.OpCut, Path: "/b", N: 90}),
		{Kind: api.ActRecover},
		batch(api.Op{Kind: api.OpRemove, Path: "/b"}),
		batch(),
	}
}

func TestItIsTheTraceOfEveryFuse(t *testing.T) {
	for place := range working() {
		for n := range 20 {
			script := slices.Insert(working(), place, api.Act{Kind: api.ActFuse, I: n})
			wantTheTrace(t, six(), longTape, script)
			again := []api.Act{{Kind: api.ActPower}, {Kind: api.ActFuse, I: 3 + n/2}, {Kind: api.ActRecover}, {Kind: api.ActPower}, {Kind: api.ActFormat}, {Kind: api.ActRecover}}
			wantTheTrace(t, six(), longTape, slices.Insert(script, place+2, again...))
		}
	}
}

func TestItIsTheTraceOfEveryEdit(t *testing.T) {
	for i, e := range everyEdit(13, 30) {
		for place := range working() {
			e.Before = (i + 5*place) % 11
			script := slices.Insert(working(), place, api.Act{Kind: api.ActEdit, Edit: e})
			wantTheTrace(t, six(), longTape, append(script, api.Act{Kind: api.ActRecover}, api.Act{Kind: api.ActFormat}))
		}
	}
}

func TestItIsTheTraceOfEveryTape(t *testing.T) {
	for n := 0; n < 9000; n += 37 {
		wantTheTrace(t, six(), longTape[:n], working())
	}
}

func TestItIsTheTraceOfOtherConfigurations(t *testing.T) {
	for _, c := range []api.Config{
		least(),
		{Slots: 64, Files: 1, Dirs: 0, MaxFile: 65536, Least: 16, Page: 64},
		{Slots: 1, Files: 200, Dirs: 9, MaxFile: 0, Least: 65536, Page: 65536},
		{Slots: 3, Files: 3, Dirs: 4096, MaxFile: 65536, Least: 17, Page: 200},
	} {
		script := append(working(), api.Act{Kind: api.ActBatch, Ops: []api.Op{{Kind: api.OpCreate, Path: "/long"}}},
			api.Act{Kind: api.ActBatch, Ops: []api.Op{write("/long", strings.Repeat("x", c.MaxFile))}}, api.Act{Kind: api.ActRecover})
		wantTheTrace(t, c, someBytes(30<<20), script)
	}
}

// The greatest vault: as many rows as may be.
func TestTheGreatest(t *testing.T) {
	c := api.Config{Slots: 64, Files: 65536, Dirs: 4096, MaxFile: 65536, Least: 16, Page: 65536}
	script := []api.Act{{Kind: api.ActFormat}, {Kind: api.ActRecover}, {Kind: api.ActBatch}, {Kind: api.ActFuse, I: 70}, {Kind: api.ActBatch}, {Kind: api.ActPower}, {Kind: api.ActRecover}}
	wantTheTrace(t, c, someBytes(30<<20), script)
}

// Two scripts whose oracles tell the same hints have the same trace: DOC.md's examples 8 and 9.
func TestTwoScriptsOfOneTrace(t *testing.T) {
	script := func(dir, data string) []api.Act {
		return []api.Act{
			{Kind: api.ActFormat}, {Kind: api.ActRecover},
			{Kind: api.ActBatch, Ops: []api.Op{{Kind: api.OpMkdir, Path: dir}, {Kind: api.OpCreate, Path: dir + "/f"}}},
			{Kind: api.ActBatch, Ops: []api.Op{{Kind: api.OpWrite, Path: dir + "/f", At: 1, Data: data}, {Kind: api.OpRead, Path: dir + "/f", N: 9}}},
			{Kind: api.ActBatch, Ops: []api.Op{{Kind: api.OpList, Path: "/"}, {Kind: api.OpStat, Path: dir + "/f"}}},
		}
	}
	one, other := script("/a", "hi"), script("/b", "ho")
	wantTheTrace(t, six(), longTape[:5000], one)
	wantTheTrace(t, six(), longTape[:5000], other)
	trace := mustRun(t, six(), longTape[:5000], one)
	if !sameCalls(trace, mustRun(t, six(), longTape[:5000], other)) || len(trace) != 46 {
		t.Errorf("the traces differ, or have not 46 calls: %q", letters(trace))
	}
	other[3].Ops[0].Data = strings.Repeat("h", 60)
	if sameCalls(trace, mustRun(t, six(), longTape[:5000], other)) {
		t.Error("a greater bucket does not show")
	}
}

// Nothing but the hints, the tape and the configuration comes in: with the same ones the answers are the same.
func TestTheSameTwice(t *testing.T) {
	r := rand.New(rand.NewSource(2001))
	for range 100 {
		c, bytes := someConfig(r), someTape(r)
		var hints []api.Hint
		for range 20 {
			hints = append(hints, someHint(r, c, false))
		}
		hints = append([]api.Hint{format(), takeUp()}, hints...)
		one, other := mustNew(t, c, bytes), mustNew(t, c, bytes)
		for _, h := range hints {
			fate, e := one.Act(h)
			again, f := other.Act(h)
			if fate != again || e != f {
				t.Fatalf("Act(%+v): %d, %d, and then %d, %d", h, fate, e, again, f)
			}
		}
		if !reflect.DeepEqual(one.Trace(), other.Trace()) {
			t.Fatal("the same hints, another trace")
		}
	}
}
