package world

import (
	"bytes"
	"fmt"
	"math"
	"math/rand"
	"slices"
	"strings"
	"sync"
	"testing"

	"casket/api"
)

var (
	tagT = strings.Repeat("t", 16)
	tagU = strings.Repeat("u", 16)
	tagX = strings.Repeat("\x00", 16)
)

func long(n int) string { return strings.Repeat("n", n) }

// shown spares the reader a million bytes.
func shown(s string) string {
	if len(s) > 40 {
		return fmt.Sprintf("%q .. (%d bytes)", s[:40], len(s))
	}
	return fmt.Sprintf("%q", s)
}

// fresh is a new world with puts done to it: names and blobs.
func fresh(t *testing.T, blobs ...string) *World {
	t.Helper()
	w := New()
	if w == nil {
		t.Fatal("New answers nil")
	}
	mustPut(t, w, blobs...)
	return w
}

func mustPut(t *testing.T, w *World, blobs ...string) {
	t.Helper()
	for i := 0; i+1 < len(blobs); i += 2 {
		wantCode(t, "Put of "+shown(blobs[i]), w.Put(blobs[i], blobs[i+1]), api.OK)
	}
}

func mustAdopt(t *testing.T, r api.Register, blobs ...string) *World {
	t.Helper()
	w, e := Adopt(asBlobs(blobs...), r)
	if w == nil || e != api.OK {
		t.Fatalf("Adopt of %d blobs: %d", len(blobs)/2, e)
	}
	return w
}

func mustPlan(t *testing.T, w *World, edits ...api.Edit) {
	t.Helper()
	for _, e := range edits {
		wantCode(t, fmt.Sprintf("Plan(%+v)", e), w.Plan(e), api.OK)
	}
}

func asBlobs(blobs ...string) []api.Blob {
	var out []api.Blob
	for i := 0; i+1 < len(blobs); i += 2 {
		out = append(out, api.Blob{Name: blobs[i], Blob: blobs[i+1]})
	}
	return out
}

func wantCode(t *testing.T, what string, got, want api.Errno) {
	t.Helper()
	if got != want {
		t.Errorf("%s: %d, want %d", what, got, want)
	}
}

func wantGet(t *testing.T, w *World, name, want string, code api.Errno) {
	t.Helper()
	if s, e := w.Get(name); s != want || e != code {
		t.Errorf("Get(%s): %s, %d, want %s, %d", shown(name), shown(s), e, shown(want), code)
	}
}

func wantList(t *testing.T, w *World, want ...string) {
	t.Helper()
	if l, e := w.List(); !slices.Equal(l, want) || e != api.OK {
		t.Errorf("List: %q, %d, want %q", l, e, want)
	}
}

// wantStore: the store has just these objects: names and blobs.
func wantStore(t *testing.T, what string, w *World, want ...string) {
	t.Helper()
	if got := w.Dump(); !slices.Equal(got, asBlobs(want...)) {
		t.Errorf("%s: the store holds %q, want %q", what, got, want)
	}
}

func wantKept(t *testing.T, w *World, want api.Register) {
	t.Helper()
	if got := w.Kept(); got != want {
		t.Errorf("Kept: %+v, want %+v", got, want)
	}
}

func wantLoad(t *testing.T, w *World, want api.Register, code api.Errno) {
	t.Helper()
	if got, e := w.Load(); got != want || e != code {
		t.Errorf("Load: %+v, %d, want %+v, %d", got, e, want, code)
	}
}

func wantDown(t *testing.T, what string, w *World, want bool) {
	t.Helper()
	if got := w.Down(); got != want {
		t.Errorf("%s: down is %v, want %v", what, got, want)
	}
}

func wantCalls(t *testing.T, w *World, want int) {
	t.Helper()
	if got := w.Calls(); got != want {
		t.Errorf("Calls: %d, want %d", got, want)
	}
}

func sameCall(a, b api.Call) bool {
	return a.Kind == b.Kind && a.Name == b.Name && a.Blob == b.Blob && a.Code == b.Code && a.Reply == b.Reply && slices.Equal(a.Names, b.Names)
}

func wantTrace(t *testing.T, w *World, want ...api.Call) {
	t.Helper()
	if got := w.Trace(); !slices.EqualFunc(got, want, sameCall) {
		t.Errorf("Trace: %+v, want %+v", got, want)
	}
}

// What follows does the document's words once more, with a copy of the whole store for each call, against which the
// program is held.

type plainWorld struct {
	objects []api.Blob // by rising names
	kept    api.Register
	off     bool
	armed   int // -1: it is not
	calls   []api.Call
	before  [][]api.Blob // of each call: what the store held ahead of its work
	puts    []api.Blob
	edits   []api.Edit
}

func newPlain(blobs []api.Blob, r api.Register) *plainWorld {
	p := &plainWorld{kept: r, armed: -1}
	for _, b := range blobs {
		p.set(b.Name, b.Blob)
	}
	return p
}

func (p *plainWorld) find(name string) int {
	return slices.IndexFunc(p.objects, func(b api.Blob) bool { return b.Name == name })
}

func (p *plainWorld) set(name, blob string) {
	p.drop(name)
	p.objects = append(slices.Clone(p.objects), api.Blob{Name: name, Blob: blob})
	slices.SortFunc(p.objects, func(a, b api.Blob) int { return bytes.Compare([]byte(a.Name), []byte(b.Name)) })
}

func (p *plainWorld) drop(name string) {
	p.objects = slices.DeleteFunc(slices.Clone(p.objects), func(b api.Blob) bool { return b.Name == name })
}

func (p *plainWorld) count() {
	if p.armed < 0 {
		return
	}
	p.armed--
	if p.armed == 0 {
		p.off, p.armed = true, -1
	}
}

func (p *plainWorld) swap(one, other string) {
	i, j := p.find(one), p.find(other)
	was := slices.Clone(p.objects)
	p.drop(one)
	p.drop(other)
	if i >= 0 {
		p.set(other, was[i].Blob)
	}
	if j >= 0 {
		p.set(one, was[j].Blob)
	}
}

func (p *plainWorld) change(e api.Edit, number int) {
	done := func(put int) bool { return put < len(p.puts) }
	switch {
	case e.Kind == 1 && done(e.Put):
		p.set(p.puts[e.Put].Name, e.Blob)
	case e.Kind == 2 && done(e.Put):
		p.drop(p.puts[e.Put].Name)
	case e.Kind == 3 && done(e.Put) && done(e.From):
		p.swap(p.puts[e.Put].Name, p.puts[e.From].Name)
	case e.Kind == 4 && done(e.Put) && done(e.From):
		p.set(p.puts[e.Put].Name, p.puts[e.From].Blob)
	case e.Kind == 5 && e.From < number:
		p.objects = slices.Clone(p.before[e.From])
	case e.Kind == 6:
		p.set(e.Name, e.Blob)
	}
}

// store does a store call, if it is one; all of them are asked for by their kinds.
func (p *plainWorld) store(kind int, name, blob string) api.Call {
	if p.off {
		return api.Call{Code: 100}
	}
	if kind != 4 && (len(name) < 1 || len(name) > 64) {
		return api.Call{Code: 1}
	}
	if kind == 2 && len(blob) > 1048576 {
		return api.Call{Code: 3}
	}
	number := len(p.calls)
	for _, e := range p.edits {
		if e.Before == number {
			p.change(e, number)
		}
	}
	p.before = append(p.before, slices.Clone(p.objects))
	c := p.work(kind, name, blob)
	p.calls = append(p.calls, c)
	p.count()
	return c
}

func (p *plainWorld) work(kind int, name, blob string) api.Call {
	c := api.Call{Kind: kind, Name: name}
	place := p.find(name)
	switch kind {
	case 1:
		if place < 0 {
			c.Code = 101
		} else {
			c.Reply = p.objects[place].Blob
		}
	case 2:
		c.Blob = blob
		p.set(name, blob)
		p.puts = append(p.puts, api.Blob{Name: name, Blob: blob})
	case 3:
		if place < 0 {
			c.Code = 101
		}
		p.drop(name)
	case 4:
		c.Name = ""
		for _, b := range p.objects {
			c.Names = append(c.Names, b.Name)
		}
	}
	return c
}

func (p *plainWorld) register(step string, tag string) (api.Register, api.Errno) {
	if p.off {
		return api.Register{}, 100
	}
	if step == "pend" && len(tag) != 16 {
		return api.Register{}, 1
	}
	answer := api.Register{}
	switch step {
	case "load":
		answer = p.kept
	case "pend":
		p.kept.Pending = tag
	case "commit":
		if p.kept.Pending != "" {
			p.kept.Current = p.kept.Pending
		}
		p.kept.Pending = ""
	case "forget":
		p.kept.Pending = ""
	case "stop":
		p.kept.Stopped = true
	}
	p.count()
	return answer, 0
}

func (p *plainWorld) plan(e api.Edit) api.Errno {
	looksAtPut, looksAtFrom := e.Kind >= 1 && e.Kind <= 4, e.Kind >= 3 && e.Kind <= 5
	looksAtBlob, looksAtName := e.Kind == 1 || e.Kind == 6, e.Kind == 6
	if e.Kind < 1 || e.Kind > 6 || e.Before < len(p.calls) || looksAtPut && e.Put < 0 || looksAtFrom && e.From < 0 {
		return 102
	}
	if looksAtBlob && len(e.Blob) > 1048576 || looksAtName && (len(e.Name) < 1 || len(e.Name) > 64) {
		return 102
	}
	if len(p.edits) == 4096 {
		return 3
	}
	p.edits = append(p.edits, e)
	return 0
}

func (p *plainWorld) arm(k int) api.Errno {
	if p.off {
		return 100
	}
	p.armed = max(k, -1)
	if k == 0 {
		p.off, p.armed = true, -1
	}
	return 0
}

func (p *plainWorld) power() { p.off, p.armed = false, -1 }

// pair is a world beside its plain one: each step is done to both, and what is answered and seen is held together.
type pair struct {
	w *World
	p *plainWorld
}

func newPair(t *testing.T, blobs []api.Blob, r api.Register) pair {
	t.Helper()
	w, e := Adopt(blobs, r)
	if w == nil || e != api.OK {
		t.Fatalf("Adopt: %d", e)
	}
	return pair{w, newPlain(blobs, r)}
}

func (d pair) hold(t *testing.T, what string) {
	t.Helper()
	if got := d.w.Dump(); !slices.Equal(got, d.p.objects) {
		t.Fatalf("%s: the store holds %q, want %q", what, got, d.p.objects)
	}
	if d.w.Kept() != d.p.kept || d.w.Down() != d.p.off || d.w.Calls() != len(d.p.calls) {
		t.Fatalf("%s: %+v, down %v, %d calls, want %+v, %v, %d", what, d.w.Kept(), d.w.Down(), d.w.Calls(), d.p.kept, d.p.off, len(d.p.calls))
	}
}

func (d pair) holdTrace(t *testing.T) {
	t.Helper()
	if got := d.w.Trace(); !slices.EqualFunc(got, d.p.calls, sameCall) {
		t.Fatalf("Trace: %+v, want %+v", got, d.p.calls)
	}
}

func (d pair) store(t *testing.T, kind int, name, blob string) {
	t.Helper()
	var got api.Call
	switch kind {
	case api.CallGet:
		got.Reply, got.Code = d.w.Get(name)
	case api.CallPut:
		got.Code = d.w.Put(name, blob)
	case api.CallDelete:
		got.Code = d.w.Delete(name)
	case api.CallList:
		got.Names, got.Code = d.w.List()
	}
	want := d.p.store(kind, name, blob)
	if got.Code != want.Code || got.Reply != want.Reply || !slices.Equal(got.Names, want.Names) {
		t.Fatalf("call %d (kind %d, %s, %s): %+v, want %+v", len(d.p.calls)-1, kind, shown(name), shown(blob), got, want)
	}
}

func (d pair) register(t *testing.T, step, tag string) {
	t.Helper()
	var got api.Register
	var e api.Errno
	switch step {
	case "load":
		got, e = d.w.Load()
	case "pend":
		e = d.w.Pend(tag)
	case "commit":
		e = d.w.Commit()
	case "forget":
		e = d.w.Forget()
	case "stop":
		e = d.w.Stop()
	}
	if want, code := d.p.register(step, tag); got != want || e != code {
		t.Fatalf("%s(%q): %+v, %d, want %+v, %d", step, tag, got, e, want, code)
	}
}

func (d pair) plan(t *testing.T, e api.Edit) {
	t.Helper()
	if got, want := d.w.Plan(e), d.p.plan(e); got != want {
		t.Fatalf("Plan(%+v) behind %d calls: %d, want %d", e, len(d.p.calls), got, want)
	}
}

func (d pair) arm(t *testing.T, k int) {
	t.Helper()
	if got, want := d.w.Arm(k), d.p.arm(k); got != want {
		t.Fatalf("Arm(%d): %d, want %d", k, got, want)
	}
}

func (d pair) power() {
	d.w.Power()
	d.p.power()
}

// one picks one of them.
func one[T any](some *rand.Rand, of ...T) T { return of[some.Intn(len(of))] }

func someName(some *rand.Rand) string {
	return one(some, "a", "b", "c", "d", "aa", "\x00", "\xff", "é", long(64), "", long(65))
}

func someBlob(some *rand.Rand) string { return one(some, "", "1", "2", "3", "\x00", "more of it") }

func someEdit(some *rand.Rand, calls, puts int) api.Edit {
	return api.Edit{
		Before: calls + some.Intn(6) - 1,
		Kind:   some.Intn(8),
		Put:    some.Intn(puts+4) - 1,
		From:   some.Intn(max(puts, calls)+4) - 1,
		Name:   someName(some),
		Blob:   someBlob(some),
	}
}

func (d pair) anyStep(t *testing.T, some *rand.Rand, edits bool) {
	t.Helper()
	switch n := some.Intn(40); {
	case n < 7:
		d.store(t, api.CallGet, someName(some), "")
	case n < 15:
		d.store(t, api.CallPut, someName(some), someBlob(some))
	case n < 20:
		d.store(t, api.CallDelete, someName(some), "")
	case n < 23:
		d.store(t, api.CallList, "", "")
	case n < 28:
		d.register(t, one(some, "load", "pend", "commit", "forget", "stop"), one(some, tagT, tagU, tagX, "", "short"))
	case n < 36:
		if edits {
			d.plan(t, someEdit(some, len(d.p.calls), len(d.p.puts)))
		}
	case n < 38:
		d.arm(t, some.Intn(14)-2)
	default:
		d.power()
	}
}

func TestAnyStepsAreTheDocuments(t *testing.T) {
	some := rand.New(rand.NewSource(101))
	for range 400 {
		var d pair
		if some.Intn(2) == 0 {
			d = pair{fresh(t), newPlain(nil, api.Register{})}
		} else {
			d = newPair(t, asBlobs("d", "1", "b", "2", "\xff", ""), api.Register{Pending: tagX})
		}
		for i := range 250 {
			d.anyStep(t, some, true)
			d.hold(t, fmt.Sprint("step ", i))
		}
		d.holdTrace(t)
	}
}

// P10.1

// refusals asks for every call that answers an Errno.
func refusals(t *testing.T, w *World, want api.Errno) {
	t.Helper()
	wantGet(t, w, "a", "", want)
	wantCode(t, "Put", w.Put("a", "x"), want)
	wantCode(t, "Delete", w.Delete("a"), want)
	if l, e := w.List(); len(l) != 0 || e != want {
		t.Errorf("List: %q, %d, want %d", l, e, want)
	}
	wantLoad(t, w, api.Register{}, want)
	wantCode(t, "Pend", w.Pend(tagT), want)
	wantCode(t, "Commit", w.Commit(), want)
	wantCode(t, "Forget", w.Forget(), want)
	wantCode(t, "Stop", w.Stop(), want)
	for _, k := range []int{-1, 0, 1} {
		wantCode(t, "Arm", w.Arm(k), want)
	}
}

func TestAWorldThatIsNotThere(t *testing.T) {
	for what, w := range map[string]*World{"nil": nil, "a zero struct": new(World)} {
		refusals(t, w, api.ErrNil)
		wantGet(t, w, "", "", api.ErrNil)
		wantCode(t, "Put", w.Put("", long(api.MaxBlob+1)), api.ErrNil)
		wantCode(t, "Delete", w.Delete(long(65)), api.ErrNil)
		wantCode(t, "Pend", w.Pend(""), api.ErrNil)
		wantCode(t, "Plan", w.Plan(api.Edit{}), api.ErrNil)
		wantCode(t, "Plan", w.Plan(api.Edit{Kind: api.EditAdd, Name: "a"}), api.ErrNil)
		w.Power()
		if w.Down() || w.Calls() != 0 || len(w.Trace()) != 0 || len(w.Dump()) != 0 || w.Kept() != (api.Register{}) {
			t.Errorf("%s tells something", what)
		}
	}
}

// A refused call takes no number off, does no edit, and stands in no trace.
func TestWhatIsRefusedChangesNothing(t *testing.T) {
	w := fresh(t, "a", "1")
	mustPlan(t, w, api.Edit{Before: 1, Kind: api.EditSet, Put: 0, Blob: "2"})
	wantCode(t, "Pend", w.Pend(tagT), api.OK)
	wantCode(t, "Arm", w.Arm(1), api.OK)
	for _, name := range []string{"", long(65), long(1000)} {
		wantGet(t, w, name, "", api.ErrArg)
		wantCode(t, "Put", w.Put(name, "x"), api.ErrArg)
		wantCode(t, "Delete", w.Delete(name), api.ErrArg)
	}
	wantCode(t, "Put", w.Put("a", long(api.MaxBlob+1)), api.ErrBig)
	wantCode(t, "Pend", w.Pend("short"), api.ErrArg)
	wantCode(t, "Plan", w.Plan(api.Edit{Before: 0, Kind: api.EditDrop}), api.ErrEdit)
	wantStore(t, "behind refusals", w, "a", "1")
	wantKept(t, w, api.Register{Pending: tagT})
	wantDown(t, "behind refusals", w, false)
	wantTrace(t, w, api.Call{Kind: api.CallPut, Name: "a", Blob: "1"})
	wantGet(t, w, "a", "2", api.OK)
	wantDown(t, "behind the Get", w, true)
}

func TestWhatIsRefusedWithoutPowerChangesNothing(t *testing.T) {
	w := mustAdopt(t, api.Register{Current: tagT, Pending: tagU}, "a", "1")
	mustPlan(t, w, api.Edit{Before: 0, Kind: api.EditAdd, Name: "b", Blob: "2"})
	wantCode(t, "Arm", w.Arm(0), api.OK)
	refusals(t, w, api.ErrDown)
	wantStore(t, "without power", w, "a", "1")
	wantKept(t, w, api.Register{Current: tagT, Pending: tagU})
	wantDown(t, "without power", w, true)
	wantCalls(t, w, 0)
	wantTrace(t, w)
	w.Power()
	wantList(t, w, "a", "b")
}

func TestNoneIsDone(t *testing.T) {
	w := fresh(t)
	mustPlan(t, w, api.Edit{Before: 0, Kind: api.EditAdd, Name: "b", Blob: "1"}, api.Edit{Before: 1, Kind: api.EditAdd, Name: "c", Blob: "2"})
	wantCode(t, "Arm", w.Arm(2), api.OK)
	wantGet(t, w, "a", "", api.ErrNone)
	wantStore(t, "behind Get", w, "b", "1")
	wantDown(t, "behind Get", w, false)
	wantCode(t, "Delete", w.Delete("a"), api.ErrNone)
	wantStore(t, "behind Delete", w, "b", "1", "c", "2")
	wantDown(t, "behind Delete", w, true)
	wantTrace(t, w, api.Call{Kind: api.CallGet, Name: "a", Code: api.ErrNone}, api.Call{Kind: api.CallDelete, Name: "a", Code: api.ErrNone})
}

// spoil writes into a list, and into the room behind it.
func spoil[T any](list []T, with T) {
	list = list[:cap(list)]
	for i := range list {
		list[i] = with
	}
}

func TestAListInAnAnswerIsNew(t *testing.T) {
	w := fresh(t, "a", "1", "b", "2")
	told := func(more ...api.Call) []api.Call { // made anew each time, so that it shares nothing with an answer
		return append([]api.Call{{Kind: 2, Name: "a", Blob: "1"}, {Kind: 2, Name: "b", Blob: "2"}, {Kind: 4, Names: []string{"a", "b"}}}, more...)
	}
	names, _ := w.List()
	spoil(names, "spoilt")
	wantTrace(t, w, told()...)
	for _, c := range w.Trace() {
		spoil(c.Names, "spoilt")
	}
	wantTrace(t, w, told()...)
	spoil(w.Trace(), api.Call{Name: "spoilt"})
	wantTrace(t, w, told()...)
	spoil(w.Dump(), api.Blob{Name: "spoilt"})
	wantStore(t, "behind all that", w, "a", "1", "b", "2")

	before := w.Trace()
	wantList(t, w, "a", "b")
	_ = append(before, api.Call{Name: "spoilt"})
	wantTrace(t, w, told(api.Call{Kind: 4, Names: []string{"a", "b"}})...)
	if !slices.EqualFunc(before, told(), sameCall) {
		t.Errorf("an answer has become %+v", before)
	}
}

func TestWhatIsAdoptedIsNeitherChangedNorKept(t *testing.T) {
	room := asBlobs("b", "2", "a", "1", "behind", "it")
	blobs := room[:2]
	w, e := Adopt(blobs, api.Register{})
	if w == nil || e != api.OK {
		t.Fatalf("Adopt: %d", e)
	}
	mustPut(t, w, "c", "3")
	wantCode(t, "Delete", w.Delete("a"), api.OK)
	if !slices.Equal(room, asBlobs("b", "2", "a", "1", "behind", "it")) {
		t.Errorf("what was handed in is %q", room)
	}
	spoil(blobs, api.Blob{Name: "spoilt", Blob: "spoilt"})
	wantStore(t, "behind the list's change", w, "b", "2", "c", "3")
	mustPlan(t, w, api.Edit{Before: 2, Kind: api.EditRestore, From: 0})
	wantList(t, w, "a", "b")
}

func TestTwoWorldsHaveNothingInCommon(t *testing.T) {
	v, w := fresh(t, "a", "1"), fresh(t)
	blobs := asBlobs("a", "1")
	x, _ := Adopt(blobs, api.Register{Current: tagT})
	y, _ := Adopt(blobs, api.Register{Current: tagT})
	mustPlan(t, v, api.Edit{Before: 1, Kind: api.EditDrop})
	wantCode(t, "Pend", v.Pend(tagU), api.OK)
	wantCode(t, "Arm", v.Arm(1), api.OK)
	wantCode(t, "Delete", x.Delete("a"), api.OK)
	wantCode(t, "Arm", x.Arm(0), api.OK)
	wantStore(t, "w", w)
	wantKept(t, w, api.Register{})
	wantGet(t, w, "a", "", api.ErrNone)
	wantGet(t, w, "a", "", api.ErrNone)
	wantCalls(t, w, 2)
	wantDown(t, "w", w, false)
	wantGet(t, y, "a", "1", api.OK)
	wantDown(t, "y", y, false)
	wantCalls(t, v, 1)
}

func TestWorldsSideBySide(t *testing.T) {
	var all sync.WaitGroup
	for range 8 {
		all.Go(func() {
			w := New()
			for i := range 500 {
				w.Plan(api.Edit{Before: i, Kind: api.EditAdd, Name: "x", Blob: fmt.Sprint(i)})
				w.Put(fmt.Sprint(i%7), fmt.Sprint(i))
			}
			if s, e := w.Get("x"); s != "499" || e != api.OK || w.Calls() != 501 || len(w.Dump()) != 8 {
				t.Errorf("a world among others: %q, %d, %d calls", s, e, w.Calls())
			}
		})
	}
	all.Wait()
}

func TestACopyIsTheSameWorld(t *testing.T) {
	w := fresh(t, "a", "1")
	c := *w
	mustPut(t, &c, "b", "2")
	wantCalls(t, w, 2)
	wantStore(t, "the first one", w, "a", "1", "b", "2")
	wantCode(t, "Arm", w.Arm(0), api.OK)
	wantDown(t, "the copy", &c, true)
}

// P10.2

func TestTheFirstFaultIsTold(t *testing.T) {
	for _, off := range []bool{false, true} {
		for _, name := range []string{"", "a", "b", long(64), long(65)} {
			for _, blob := range []string{"", "x", long(api.MaxBlob), long(api.MaxBlob + 1)} {
				w := fresh(t, "a", "1")
				if off {
					wantCode(t, "Arm", w.Arm(0), api.OK)
				}
				fault, none := api.OK, api.OK
				switch {
				case off:
					fault = api.ErrDown
				case name == "" || len(name) > 64:
					fault = api.ErrArg
				case name != "a":
					none = api.ErrNone
				}
				get, reply := max(fault, none), ""
				if get == api.OK {
					reply = "1"
				}
				wantGet(t, w, name, reply, get)
				wantCode(t, "Delete", w.Delete(name), get)
				if fault == api.OK && len(blob) > 1048576 {
					fault = api.ErrBig
				}
				wantCode(t, "Put of "+shown(name)+" "+shown(blob), w.Put(name, blob), fault)
			}
		}
	}
}

func TestATagHasJustSixteenBytes(t *testing.T) {
	for n := range 40 {
		w, fault := fresh(t), api.OK
		if n != 16 {
			fault = api.ErrArg
		}
		wantCode(t, fmt.Sprint("Pend of ", n), w.Pend(long(n)), fault)
		wantCode(t, "Arm", w.Arm(0), api.OK)
		wantCode(t, fmt.Sprint("Pend of ", n), w.Pend(long(n)), api.ErrDown)
	}
}

// P10.3

func TestANewWorld(t *testing.T) {
	w := fresh(t)
	wantStore(t, "a new world", w)
	wantKept(t, w, api.Register{})
	wantDown(t, "a new world", w, false)
	wantCalls(t, w, 0)
	wantTrace(t, w)
	for range 100 {
		wantLoad(t, w, api.Register{}, api.OK)
	}
	wantDown(t, "a new world", w, false)
	wantList(t, w)
}

func TestAdoptTellsTheFirstFault(t *testing.T) {
	big := long(api.MaxBlob + 1)
	none, bad := api.Register{}, api.Register{Current: "x"}
	for i, c := range []struct {
		blobs []string
		r     api.Register
		want  api.Errno
	}{
		{nil, none, api.OK},
		{[]string{"", "1"}, none, api.ErrArg},
		{[]string{long(65), "1"}, none, api.ErrArg},
		{[]string{long(64), "1", "\x00", ""}, none, api.OK},
		{[]string{"a", "1", "a", "2"}, none, api.ErrArg},
		{[]string{"a", "1", "a", "1"}, none, api.ErrArg},
		{[]string{"a", "", "a", ""}, none, api.ErrArg},
		{[]string{"a", "1", "b", "2", "a", "3"}, none, api.ErrArg},
		{[]string{"a", "1", "A", "2", "a ", "3"}, none, api.OK},
		{[]string{"a", big}, none, api.ErrBig},
		{[]string{"a", long(api.MaxBlob)}, none, api.OK},
		{[]string{"", big}, none, api.ErrArg},
		{[]string{long(65), big}, none, api.ErrArg},
		{[]string{"a", "1", "a", big}, none, api.ErrArg},
		{[]string{"a", big, "", "1"}, none, api.ErrBig},
		{[]string{"", "1", "a", big}, none, api.ErrArg},
		{[]string{"a", big, "a", "1"}, none, api.ErrBig},
		{[]string{"a", big}, bad, api.ErrBig},
		{[]string{"a", "1"}, bad, api.ErrArg},
	} {
		w, e := Adopt(asBlobs(c.blobs...), c.r)
		if e != c.want || (w != nil) != (e == api.OK) {
			t.Errorf("Adopt %d: %d, want %d", i, e, c.want)
		}
	}
	if w, e := Adopt([]api.Blob{}, none); w == nil || e != api.OK {
		t.Errorf("Adopt of an empty list: %d", e)
	}
}

func TestAdoptLooksAtBothTags(t *testing.T) {
	for n := range 34 {
		for _, r := range []api.Register{{Current: long(n)}, {Pending: long(n)}, {Current: long(n), Pending: long(n)}, {Current: tagT, Pending: long(n)}, {Current: long(n), Pending: tagT, Stopped: true}} {
			w, e := Adopt(nil, r)
			if n != 0 && n != 16 {
				if w != nil || e != api.ErrArg {
					t.Errorf("Adopt of %+v: %d", r, e)
				}
				continue
			}
			if w == nil || e != api.OK || w.Kept() != r {
				t.Errorf("Adopt of %+v: %d, %+v", r, e, w.Kept())
			}
		}
	}
}

func TestAnAdoptedWorldIsLikeANewOne(t *testing.T) {
	r := api.Register{Current: tagT, Pending: tagU, Stopped: true}
	w := mustAdopt(t, r, "b", "2", "a", "1")
	wantCalls(t, w, 0)
	wantTrace(t, w)
	wantDown(t, "an adopted world", w, false)
	wantStore(t, "an adopted world", w, "a", "1", "b", "2")
	for range 100 {
		wantLoad(t, w, r, api.OK)
	}
	wantGet(t, w, "b", "2", api.OK)
	for range api.MaxEdits {
		mustPlan(t, w, api.Edit{Before: 2, Kind: api.EditDrop})
	}
	wantGet(t, w, "a", "1", api.OK)
}

func TestWhatIsAdoptedAreNoPuts(t *testing.T) {
	for _, e := range []api.Edit{{Kind: api.EditDrop}, {Kind: api.EditSet, Blob: "x"}, {Kind: api.EditSwap}, {Kind: api.EditReplay}} {
		w := mustAdopt(t, api.Register{}, "a", "1", "b", "2")
		mustPlan(t, w, e)
		wantList(t, w, "a", "b")
		wantStore(t, fmt.Sprintf("%+v", e), w, "a", "1", "b", "2")
	}
	w := mustAdopt(t, api.Register{}, "a", "1", "b", "2")
	mustPut(t, w, "b", "3")
	mustPlan(t, w, api.Edit{Before: 1, Kind: api.EditDrop})
	wantList(t, w, "a")
}

// P10.4

func TestStoreExamples(t *testing.T) {
	w := fresh(t)
	wantGet(t, w, "a", "", api.ErrNone)
	wantCode(t, "Put", w.Put("a", "x"), api.OK)
	wantGet(t, w, "a", "x", api.OK)
	wantCode(t, "Put", w.Put("a", ""), api.OK)
	wantGet(t, w, "a", "", api.OK)
	wantCode(t, "Delete", w.Delete("a"), api.OK)
	wantCode(t, "Delete", w.Delete("a"), api.ErrNone)
	wantCalls(t, w, 7)

	w = fresh(t)
	wantGet(t, w, "", "", api.ErrArg)
	wantCode(t, "Delete", w.Delete(long(65)), api.ErrArg)
	wantCode(t, "Put", w.Put("", ""), api.ErrArg)
	wantCode(t, "Put", w.Put("a", long(1048577)), api.ErrBig)
	wantCalls(t, w, 0)
	wantTrace(t, w)
}

func TestNamesAndBlobsAtTheirLimits(t *testing.T) {
	w := fresh(t)
	most := strings.Repeat("\xff\x00", api.MaxBlob/2)
	for _, name := range []string{"a", "\x00", long(64), strings.Repeat("\xff", 64)} {
		for _, blob := range []string{most, "", "\x00"} {
			mustPut(t, w, name, blob)
			wantGet(t, w, name, blob, api.OK)
		}
	}
	wantList(t, w, "\x00", "a", long(64), strings.Repeat("\xff", 64))
}

func TestAnEmptyBlobIsAnObject(t *testing.T) {
	w := fresh(t, "a", "")
	wantList(t, w, "a")
	wantGet(t, w, "a", "", api.OK)
	wantCode(t, "Delete", w.Delete("a"), api.OK)
	wantGet(t, w, "a", "", api.ErrNone)
	wantList(t, w)
}

// Names rise by their bytes, whatever letters they are, and a beginning comes ahead of what goes on.
func TestNamesRiseByTheirBytes(t *testing.T) {
	var want []string
	for i := range 256 {
		b := string([]byte{byte(i)})
		want = append(want, b, b+"\x00", b+"a", b+"\xff")
	}
	w := New()
	for _, i := range rand.New(rand.NewSource(104)).Perm(len(want)) {
		mustPut(t, w, want[i], fmt.Sprint(i))
	}
	wantList(t, w, want...)
	for i, b := range w.Dump() {
		if b.Name != want[i] || b.Blob != fmt.Sprint(i) {
			t.Fatalf("Dump: %d is %q", i, b)
		}
	}
}

// P10.5

func TestRegisterExamples(t *testing.T) {
	w := fresh(t)
	wantLoad(t, w, api.Register{}, api.OK)
	wantCode(t, "Commit", w.Commit(), api.OK)
	wantKept(t, w, api.Register{})
	wantCode(t, "Pend", w.Pend(tagT), api.OK)
	wantLoad(t, w, api.Register{Pending: tagT}, api.OK)
	wantCode(t, "Commit", w.Commit(), api.OK)
	wantKept(t, w, api.Register{Current: tagT})
	wantCode(t, "Pend", w.Pend(tagU), api.OK)
	wantCode(t, "Forget", w.Forget(), api.OK)
	wantKept(t, w, api.Register{Current: tagT})
	wantCode(t, "Stop", w.Stop(), api.OK)
	wantKept(t, w, api.Register{Current: tagT, Stopped: true})
	wantCode(t, "Pend", w.Pend(""), api.ErrArg)
	wantCode(t, "Pend", w.Pend("short"), api.ErrArg)
	wantKept(t, w, api.Register{Current: tagT, Stopped: true})
	wantCalls(t, w, 0)
}

func TestACommitWithoutATagChangesNothing(t *testing.T) {
	w := mustAdopt(t, api.Register{Current: tagT})
	wantCode(t, "Commit", w.Commit(), api.OK)
	wantKept(t, w, api.Register{Current: tagT})
	wantCode(t, "Pend", w.Pend(tagU), api.OK)
	wantCode(t, "Commit", w.Commit(), api.OK)
	wantCode(t, "Commit", w.Commit(), api.OK)
	wantKept(t, w, api.Register{Current: tagU})
}

func TestATagIsPendedOverAnother(t *testing.T) {
	w := mustAdopt(t, api.Register{Current: tagX, Pending: tagT})
	wantCode(t, "Pend", w.Pend(tagU), api.OK)
	wantKept(t, w, api.Register{Current: tagX, Pending: tagU})
	wantCode(t, "Pend", w.Pend(tagX), api.OK)
	wantCode(t, "Commit", w.Commit(), api.OK)
	wantKept(t, w, api.Register{Current: tagX})
	wantCode(t, "Forget", w.Forget(), api.OK)
	wantKept(t, w, api.Register{Current: tagX})
}

func TestAStoppedRegisterDoesItsCalls(t *testing.T) {
	w := fresh(t)
	wantCode(t, "Stop", w.Stop(), api.OK)
	wantCode(t, "Pend", w.Pend(tagT), api.OK)
	wantLoad(t, w, api.Register{Pending: tagT, Stopped: true}, api.OK)
	wantCode(t, "Commit", w.Commit(), api.OK)
	wantCode(t, "Pend", w.Pend(tagU), api.OK)
	wantCode(t, "Forget", w.Forget(), api.OK)
	wantCode(t, "Stop", w.Stop(), api.OK)
	wantCode(t, "Arm", w.Arm(0), api.OK)
	w.Power()
	wantLoad(t, w, api.Register{Current: tagT, Stopped: true}, api.OK)
	mustPut(t, w, "a", "1")
}

// P10.6

func TestPowerExamples(t *testing.T) {
	w := fresh(t)
	wantCode(t, "Arm", w.Arm(2), api.OK)
	wantCode(t, "Put", w.Put("a", "x"), api.OK)
	wantGet(t, w, "b", "", api.ErrNone)
	wantDown(t, "behind two calls", w, true)
	wantGet(t, w, "a", "", api.ErrDown)
	wantLoad(t, w, api.Register{}, api.ErrDown)
	wantCode(t, "Arm", w.Arm(9), api.ErrDown)
	w.Power()
	wantGet(t, w, "a", "x", api.OK)
	wantCalls(t, w, 3)

	w = fresh(t)
	wantCode(t, "Arm", w.Arm(1), api.OK)
	wantGet(t, w, "", "", api.ErrArg)
	wantCode(t, "Pend", w.Pend("x"), api.ErrArg)
	wantDown(t, "behind refusals", w, false)
	wantCode(t, "Commit", w.Commit(), api.OK)
	wantDown(t, "behind a Commit", w, true)

	w = fresh(t)
	wantCode(t, "Arm", w.Arm(0), api.OK)
	wantDown(t, "behind Arm(0)", w, true)

	w = fresh(t)
	wantCode(t, "Arm", w.Arm(5), api.OK)
	wantCode(t, "Arm", w.Arm(-1), api.OK)
	useUp(t, w, 50)
	wantDown(t, "behind Arm(-1)", w, false)
}

// useUp makes that many calls.
func useUp(t *testing.T, w *World, n int) {
	t.Helper()
	for range n {
		wantLoad(t, w, w.Kept(), api.OK)
	}
}

// eachCall is every call that is counted, and one that is refused for its arguments.
func eachCall() map[string][2]func(*World) {
	none := func(*World) {}
	return map[string][2]func(*World){
		"Get":            {func(w *World) { w.Get("a") }, func(w *World) { w.Get("") }},
		"Get of none":    {func(w *World) { w.Get("none") }, func(w *World) { w.Get(long(65)) }},
		"Put":            {func(w *World) { w.Put("a", "2") }, func(w *World) { w.Put("a", long(api.MaxBlob+1)) }},
		"Put of a new":   {func(w *World) { w.Put("new", "") }, func(w *World) { w.Put("", "") }},
		"Delete":         {func(w *World) { w.Delete("a") }, func(w *World) { w.Delete("") }},
		"Delete of none": {func(w *World) { w.Delete("none") }, func(w *World) { w.Delete(long(65)) }},
		"List":           {func(w *World) { w.List() }, none},
		"Load":           {func(w *World) { w.Load() }, none},
		"Pend":           {func(w *World) { w.Pend(tagT) }, func(w *World) { w.Pend("x") }},
		"Commit":         {func(w *World) { w.Commit() }, none},
		"Forget":         {func(w *World) { w.Forget() }, none},
		"Stop":           {func(w *World) { w.Stop() }, none},
	}
}

func TestEachCallTakesOneOff(t *testing.T) {
	for what, call := range eachCall() {
		w := mustAdopt(t, api.Register{}, "a", "1")
		wantCode(t, "Arm", w.Arm(3), api.OK)
		for range 5 {
			call[1](w)
		}
		call[0](w)
		wantDown(t, what+", once", w, false)
		call[0](w)
		call[1](w)
		wantDown(t, what+", twice", w, false)
		call[0](w)
		wantDown(t, what+", the third time", w, true)
		call[0](w)
		w.Power()
		wantDown(t, "behind Power", w, false)
		for range 9 {
			call[0](w)
		}
		wantDown(t, what+", unarmed", w, false)
	}
}

func TestWhatIsNoCallTakesNothingOff(t *testing.T) {
	w := mustAdopt(t, api.Register{Pending: tagT}, "a", "1")
	wantCode(t, "Arm", w.Arm(2), api.OK)
	for range 10 {
		mustPlan(t, w, api.Edit{Before: 0, Kind: api.EditAdd, Name: "b", Blob: "2"})
		wantDown(t, "looking", w, false)
		wantCalls(t, w, 0)
		wantTrace(t, w)
		wantStore(t, "looking", w, "a", "1")
		wantKept(t, w, api.Register{Pending: tagT})
	}
	wantList(t, w, "a", "b")
	wantDown(t, "behind one call with ten edits", w, false)
	wantList(t, w, "a", "b")
	wantDown(t, "behind two", w, true)
}

func TestArmTakesTheLastNumber(t *testing.T) {
	for _, c := range [][]int{{5, 2}, {1, 2}, {-1, 2}, {2, 2}, {math.MaxInt, 2}, {math.MinInt, 2}} {
		w := fresh(t)
		for _, k := range c {
			wantCode(t, "Arm", w.Arm(k), api.OK)
		}
		useUp(t, w, 1)
		wantDown(t, fmt.Sprint("one call behind Arm of ", c), w, false)
		useUp(t, w, 1)
		wantDown(t, fmt.Sprint("two calls behind Arm of ", c), w, true)
	}
	for _, k := range []int{-1, -2, math.MinInt, math.MaxInt, math.MinInt + 1} {
		w := fresh(t)
		wantCode(t, "Arm", w.Arm(1), api.OK)
		wantCode(t, "Arm", w.Arm(k), api.OK)
		useUp(t, w, 200)
		wantDown(t, fmt.Sprint("behind Arm of ", k), w, false)
	}
	w := fresh(t)
	wantCode(t, "Arm", w.Arm(4), api.OK)
	useUp(t, w, 3)
	wantCode(t, "Arm", w.Arm(0), api.OK)
	wantDown(t, "behind Arm(0)", w, true)
}

func TestArmWithoutPower(t *testing.T) {
	w := fresh(t)
	wantCode(t, "Arm", w.Arm(0), api.OK)
	for _, k := range []int{-1, 0, 1, 7} {
		wantCode(t, "Arm", w.Arm(k), api.ErrDown)
		wantDown(t, "still", w, true)
	}
	w.Power()
	useUp(t, w, 20)
	wantDown(t, "behind Power", w, false)
}

func TestPowerDisarms(t *testing.T) {
	w := fresh(t)
	wantCode(t, "Arm", w.Arm(2), api.OK)
	useUp(t, w, 1)
	w.Power()
	useUp(t, w, 20)
	wantDown(t, "behind Power", w, false)
	w.Power()
	wantDown(t, "behind Power again", w, false)
}

func TestTheThirdCallIsDoneAndTheFourthIsNot(t *testing.T) {
	w := fresh(t)
	wantCode(t, "Arm", w.Arm(3), api.OK)
	mustPut(t, w, "a", "1")
	wantCode(t, "Pend", w.Pend(tagT), api.OK)
	mustPut(t, w, "b", "2")
	refusals(t, w, api.ErrDown)
	wantStore(t, "without power", w, "a", "1", "b", "2")
	wantKept(t, w, api.Register{Pending: tagT})
	wantTrace(t, w, api.Call{Kind: api.CallPut, Name: "a", Blob: "1"}, api.Call{Kind: api.CallPut, Name: "b", Blob: "2"})
}

// The store, the register, the counts and the edits outlive the power.
func TestThePowerLosesNothing(t *testing.T) {
	w := fresh(t, "a", "1", "b", "2")
	wantCode(t, "Pend", w.Pend(tagT), api.OK)
	mustPlan(t, w, api.Edit{Before: 3, Kind: api.EditSet, Put: 1, Blob: "3"})
	wantCode(t, "Arm", w.Arm(1), api.OK)
	wantList(t, w, "a", "b")
	mustPlan(t, w, api.Edit{Before: 4, Kind: api.EditRestore, From: 1})
	trace := w.Trace()
	w.Power()
	wantCalls(t, w, 3)
	wantTrace(t, w, trace...)
	wantStore(t, "behind Power", w, "a", "1", "b", "2")
	wantKept(t, w, api.Register{Pending: tagT})
	wantGet(t, w, "b", "3", api.OK)
	wantList(t, w, "a")
}

// P10.7

// edits of each kind that can be planned for call 0.
func goodEdits() []api.Edit {
	return []api.Edit{
		{Kind: api.EditSet, Blob: long(api.MaxBlob)}, {Kind: api.EditSet, Put: math.MaxInt}, {Kind: api.EditDrop}, {Kind: api.EditDrop, Put: math.MaxInt},
		{Kind: api.EditSwap}, {Kind: api.EditSwap, Put: math.MaxInt, From: math.MaxInt}, {Kind: api.EditReplay}, {Kind: api.EditReplay, Put: 3, From: math.MaxInt},
		{Kind: api.EditRestore}, {Kind: api.EditRestore, From: math.MaxInt},
		{Kind: api.EditAdd, Name: "a"}, {Kind: api.EditAdd, Name: long(64), Blob: long(api.MaxBlob)}, {Kind: api.EditAdd, Name: "\x00"},
	}
}

func TestAnEditThatMayBe(t *testing.T) {
	for _, e := range goodEdits() {
		w := fresh(t)
		mustPlan(t, w, e)
		for _, before := range []int{1, 4096, math.MaxInt} {
			e.Before = before
			mustPlan(t, w, e)
		}
		wantCode(t, "Arm", w.Arm(0), api.OK)
		mustPlan(t, w, e)
	}
}

func TestAnEditOfNoKind(t *testing.T) {
	for _, kind := range []int{math.MinInt, -1, 0, 7, 8, 257, 1 << 32, 1<<32 + 1, math.MaxInt} {
		wantCode(t, fmt.Sprint("Plan of kind ", kind), fresh(t).Plan(api.Edit{Kind: kind, Name: "a"}), api.ErrEdit)
	}
}

func TestAnEditAheadOfACallThatWas(t *testing.T) {
	for _, e := range goodEdits() {
		w := fresh(t, "a", "1", "b", "2")
		for _, before := range []int{math.MinInt, -1, 0, 1} {
			e.Before = before
			wantCode(t, fmt.Sprint("Plan before ", before), w.Plan(e), api.ErrEdit)
		}
		e.Before = 2
		mustPlan(t, w, e)
	}
}

// What a kind looks at is refused; what it does not look at makes no difference.
func TestPlanLooksAtTheKindsFields(t *testing.T) {
	looks := map[int]string{api.EditSet: "put blob", api.EditDrop: "put", api.EditSwap: "put from", api.EditReplay: "put from", api.EditRestore: "from", api.EditAdd: "name blob"}
	for kind, fields := range looks {
		for _, c := range []struct {
			field string
			spoil func(*api.Edit)
		}{
			{"put", func(e *api.Edit) { e.Put = -1 }}, {"put", func(e *api.Edit) { e.Put = math.MinInt }},
			{"from", func(e *api.Edit) { e.From = -1 }}, {"from", func(e *api.Edit) { e.From = math.MinInt }},
			{"name", func(e *api.Edit) { e.Name = "" }}, {"name", func(e *api.Edit) { e.Name = long(65) }},
			{"blob", func(e *api.Edit) { e.Blob = long(api.MaxBlob + 1) }},
		} {
			e, want := api.Edit{Kind: kind, Name: "a", Blob: "x"}, api.OK
			c.spoil(&e)
			if strings.Contains(fields, c.field) {
				want = api.ErrEdit
			}
			wantCode(t, fmt.Sprintf("Plan of kind %d with a bad %s", kind, c.field), fresh(t).Plan(e), want)
		}
	}
}

func TestNoMoreThanMaxEditsArePlanned(t *testing.T) {
	w := fresh(t)
	for range api.MaxEdits / 2 {
		mustPlan(t, w, api.Edit{Before: w.Calls(), Kind: api.EditAdd, Name: "a", Blob: "1"})
		wantGet(t, w, "a", "1", api.OK)
		wantCode(t, "Plan", w.Plan(api.Edit{Before: 0, Kind: api.EditAdd, Name: "a"}), api.ErrEdit)
	}
	for i := range api.MaxEdits / 2 {
		mustPlan(t, w, api.Edit{Before: 3000 + i, Kind: api.EditDrop, Put: i})
	}
	for _, e := range goodEdits() {
		e.Before = 5000
		wantCode(t, "Plan of one more", w.Plan(e), api.ErrBig)
		e.Before = 2047
		wantCode(t, "Plan of one more that may not be", w.Plan(e), api.ErrEdit)
	}
	wantCode(t, "Plan of one more that may not be", w.Plan(api.Edit{Before: 5000, Kind: 7}), api.ErrEdit)
	wantCode(t, "Arm", w.Arm(0), api.OK)
	wantCode(t, "Plan without power", w.Plan(api.Edit{Before: 5000, Kind: api.EditDrop}), api.ErrBig)
	w.Power()
	wantCode(t, "Plan", w.Plan(api.Edit{Before: 5000, Kind: api.EditDrop}), api.ErrBig)
}

// P10.8

func TestEditExamples(t *testing.T) {
	w := fresh(t, "a", "1", "a", "2")
	mustPlan(t, w, api.Edit{Before: 2, Kind: api.EditReplay, Put: 0, From: 0})
	wantStore(t, "ahead of the call", w, "a", "2")
	wantGet(t, w, "a", "1", api.OK)
	wantCode(t, "Plan", w.Plan(api.Edit{Before: 2, Kind: api.EditReplay}), api.ErrEdit)
	wantCalls(t, w, 3)

	w = fresh(t, "a", "1", "b", "2")
	mustPlan(t, w, api.Edit{Before: 2, Kind: api.EditSwap, Put: 0, From: 1}, api.Edit{Before: 2, Kind: api.EditDrop, Put: 0})
	wantList(t, w, "b")
	wantGet(t, w, "b", "1", api.OK)

	for from, want := range map[int][]string{1: {"a"}, 2: {}, 3: {"b"}, 4: {"b"}} {
		w = fresh(t, "a", "1")
		wantCode(t, "Delete", w.Delete("a"), api.OK)
		mustPut(t, w, "b", "2")
		mustPlan(t, w, api.Edit{Before: 3, Kind: api.EditRestore, From: from}, api.Edit{Before: 3, Kind: api.EditSet, Put: 7, Blob: "x"})
		wantList(t, w, want...)
	}

	w = mustAdopt(t, api.Register{Current: tagT}, "b", "2", "a", "1")
	wantGet(t, w, "b", "2", api.OK)
	mustPlan(t, w, api.Edit{Before: 1, Kind: api.EditDrop, Put: 0})
	wantGet(t, w, "a", "1", api.OK)
}

// edited does edits to a store in which a was put and taken away, b put twice, c once, and holds it against what it is to have then.
func edited(t *testing.T, what string, edits []api.Edit, want ...string) {
	t.Helper()
	w := fresh(t, "a", "1", "b", "2", "b", "3", "c", "4")
	wantCode(t, "Delete", w.Delete("a"), api.OK)
	for i := range edits {
		edits[i].Before = 5
	}
	mustPlan(t, w, edits...)
	wantStore(t, what+": ahead of the call", w, "b", "3", "c", "4")
	w.List()
	wantStore(t, what, w, want...)
	w.List()
	wantStore(t, what+", once only", w, want...)
}

func TestEditSet(t *testing.T) {
	edited(t, "of an object", []api.Edit{{Kind: api.EditSet, Put: 3, Blob: "x"}}, "b", "3", "c", "x")
	edited(t, "of none", []api.Edit{{Kind: api.EditSet, Put: 0, Blob: "x"}}, "a", "x", "b", "3", "c", "4")
	edited(t, "to nothing", []api.Edit{{Kind: api.EditSet, Put: 1, Blob: ""}}, "b", "", "c", "4")
	edited(t, "of no put", []api.Edit{{Kind: api.EditSet, Put: 4, Blob: "x"}}, "b", "3", "c", "4")
	edited(t, "with more", []api.Edit{{Kind: api.EditSet, Put: 3, From: -7, Name: "z", Blob: "x"}}, "b", "3", "c", "x")
}

func TestEditDrop(t *testing.T) {
	edited(t, "of an object", []api.Edit{{Kind: api.EditDrop, Put: 1}}, "c", "4")
	edited(t, "by its later put", []api.Edit{{Kind: api.EditDrop, Put: 2}}, "c", "4")
	edited(t, "of none", []api.Edit{{Kind: api.EditDrop, Put: 0}}, "b", "3", "c", "4")
	edited(t, "twice", []api.Edit{{Kind: api.EditDrop, Put: 1}, {Kind: api.EditDrop, Put: 2}}, "c", "4")
	edited(t, "of no put", []api.Edit{{Kind: api.EditDrop, Put: 4}}, "b", "3", "c", "4")
	edited(t, "with more", []api.Edit{{Kind: api.EditDrop, Put: 3, From: -1, Name: "b", Blob: long(api.MaxBlob + 1)}}, "b", "3")
}

func TestEditSwap(t *testing.T) {
	edited(t, "of two", []api.Edit{{Kind: api.EditSwap, Put: 1, From: 3}}, "b", "4", "c", "3")
	edited(t, "the other way", []api.Edit{{Kind: api.EditSwap, Put: 3, From: 2}}, "b", "4", "c", "3")
	edited(t, "and back", []api.Edit{{Kind: api.EditSwap, Put: 1, From: 3}, {Kind: api.EditSwap, Put: 1, From: 3}}, "b", "3", "c", "4")
	edited(t, "with none", []api.Edit{{Kind: api.EditSwap, Put: 3, From: 0}}, "a", "4", "b", "3")
	edited(t, "of none", []api.Edit{{Kind: api.EditSwap, Put: 0, From: 2}}, "a", "3", "c", "4")
	edited(t, "of one name", []api.Edit{{Kind: api.EditSwap, Put: 1, From: 2}}, "b", "3", "c", "4")
	edited(t, "of one put", []api.Edit{{Kind: api.EditSwap, Put: 3, From: 3}}, "b", "3", "c", "4")
	edited(t, "of one that is not there", []api.Edit{{Kind: api.EditSwap, Put: 0, From: 0}}, "b", "3", "c", "4")
	edited(t, "of two that are not there", []api.Edit{{Kind: api.EditDrop, Put: 3}, {Kind: api.EditSwap, Put: 0, From: 3}}, "b", "3")
	edited(t, "of an empty one", []api.Edit{{Kind: api.EditSet, Put: 3, Blob: ""}, {Kind: api.EditSwap, Put: 0, From: 3}}, "a", "", "b", "3")
	edited(t, "with no put", []api.Edit{{Kind: api.EditSwap, Put: 1, From: 4}}, "b", "3", "c", "4")
	edited(t, "of no put", []api.Edit{{Kind: api.EditSwap, Put: 4, From: 1}}, "b", "3", "c", "4")
	edited(t, "with more", []api.Edit{{Kind: api.EditSwap, Put: 1, From: 3, Name: "", Blob: long(api.MaxBlob + 1)}}, "b", "4", "c", "3")
}

func TestEditReplay(t *testing.T) {
	edited(t, "of an old blob", []api.Edit{{Kind: api.EditReplay, Put: 2, From: 1}}, "b", "2", "c", "4")
	edited(t, "of another's blob", []api.Edit{{Kind: api.EditReplay, Put: 3, From: 1}}, "b", "3", "c", "2")
	edited(t, "of one that is gone", []api.Edit{{Kind: api.EditReplay, Put: 0, From: 0}}, "a", "1", "b", "3", "c", "4")
	edited(t, "of what was put, not of what is there", []api.Edit{{Kind: api.EditSet, Put: 3, Blob: "x"}, {Kind: api.EditReplay, Put: 1, From: 3}}, "b", "4", "c", "x")
	edited(t, "with no put", []api.Edit{{Kind: api.EditReplay, Put: 1, From: 4}}, "b", "3", "c", "4")
	edited(t, "of no put", []api.Edit{{Kind: api.EditReplay, Put: 4, From: 1}}, "b", "3", "c", "4")
	edited(t, "with more", []api.Edit{{Kind: api.EditReplay, Put: 3, From: 1, Name: "", Blob: long(api.MaxBlob + 1)}}, "b", "3", "c", "2")
}

func TestEditAdd(t *testing.T) {
	edited(t, "of a new one", []api.Edit{{Kind: api.EditAdd, Name: "aa", Blob: "x"}}, "aa", "x", "b", "3", "c", "4")
	edited(t, "of one that is there", []api.Edit{{Kind: api.EditAdd, Name: "b", Blob: ""}}, "b", "", "c", "4")
	edited(t, "with more", []api.Edit{{Kind: api.EditAdd, Put: -1, From: -1, Name: "d"}}, "b", "3", "c", "4", "d", "")
	edited(t, "is no put", []api.Edit{{Kind: api.EditAdd, Name: "d", Blob: "x"}, {Kind: api.EditDrop, Put: 4}}, "b", "3", "c", "4", "d", "x")
}

func TestEditRestore(t *testing.T) {
	for from, want := range [][]string{{}, {"a", "1"}, {"a", "1", "b", "2"}, {"a", "1", "b", "3"}, {"a", "1", "b", "3", "c", "4"}, {"b", "3", "c", "4"}, {"b", "3", "c", "4"}} {
		edited(t, fmt.Sprint("from ", from), []api.Edit{{Kind: api.EditRestore, From: from}}, want...)
		edited(t, fmt.Sprint("with more, from ", from), []api.Edit{{Kind: api.EditRestore, From: from, Put: -1, Name: "", Blob: long(api.MaxBlob + 1)}}, want...)
	}
	edited(t, "the last one holds", []api.Edit{{Kind: api.EditRestore, From: 1}, {Kind: api.EditRestore, From: 3}}, "a", "1", "b", "3")
	edited(t, "over what was edited", []api.Edit{{Kind: api.EditAdd, Name: "x"}, {Kind: api.EditRestore, From: 3}}, "a", "1", "b", "3")
	edited(t, "and more edits", []api.Edit{{Kind: api.EditRestore, From: 3}, {Kind: api.EditAdd, Name: "x"}, {Kind: api.EditDrop, Put: 0}}, "b", "3", "x", "")
	edited(t, "from its own call", []api.Edit{{Kind: api.EditAdd, Name: "x"}, {Kind: api.EditRestore, From: 5}}, "b", "3", "c", "4", "x", "")
}

// What was adopted lay there ahead of the first call.
func TestARestoreBringsBackWhatWasAdopted(t *testing.T) {
	w := mustAdopt(t, api.Register{}, "b", "2", "a", "1")
	wantCode(t, "Delete", w.Delete("a"), api.OK)
	mustPut(t, w, "c", "3")
	mustPlan(t, w, api.Edit{Before: 2, Kind: api.EditRestore, From: 0}, api.Edit{Before: 3, Kind: api.EditRestore, From: 2}, api.Edit{Before: 4, Kind: api.EditRestore, From: 1})
	wantList(t, w, "a", "b")
	wantStore(t, "from 0", w, "a", "1", "b", "2")
	wantList(t, w, "a", "b")
	wantList(t, w, "b")
}

// A restore's call is behind the edits of that call, and ahead of its work.
func TestARestoreIsBehindTheEditsThatCameAhead(t *testing.T) {
	w := fresh(t, "a", "1")
	mustPlan(t, w,
		api.Edit{Before: 1, Kind: api.EditAdd, Name: "x", Blob: "early"},
		api.Edit{Before: 2, Kind: api.EditDrop, Put: 0},
		api.Edit{Before: 3, Kind: api.EditRestore, From: 1},
		api.Edit{Before: 4, Kind: api.EditRestore, From: 2},
		api.Edit{Before: 5, Kind: api.EditRestore, From: 3},
		api.Edit{Before: 6, Kind: api.EditRestore, From: 0},
		api.Edit{Before: 7, Kind: api.EditRestore, From: 5},
	)
	mustPut(t, w, "b", "2")
	wantStore(t, "behind call 1", w, "a", "1", "b", "2", "x", "early")
	wantCode(t, "Delete", w.Delete("b"), api.OK)
	wantStore(t, "behind call 2", w, "x", "early")
	wantList(t, w, "a", "x")
	wantList(t, w, "b", "x")
	wantList(t, w, "a", "x")
	wantList(t, w)
	mustPut(t, w, "c", "3")
	wantStore(t, "behind call 7", w, "a", "1", "c", "3", "x", "early")
}

// What is done behind a restore does not reach what lay there before it.
func TestARestoredStoreGoesOnByItself(t *testing.T) {
	w := fresh(t, "a", "1", "b", "2", "c", "3")
	mustPlan(t, w, api.Edit{Before: 3, Kind: api.EditRestore, From: 1})
	mustPut(t, w, "d", "4")
	wantStore(t, "behind the restore", w, "a", "1", "d", "4")
	mustPlan(t, w, api.Edit{Before: 4, Kind: api.EditRestore, From: 2}, api.Edit{Before: 5, Kind: api.EditRestore, From: 4}, api.Edit{Before: 6, Kind: api.EditRestore, From: 3})
	wantCode(t, "Delete", w.Delete("a"), api.OK)
	wantStore(t, "behind the second", w, "b", "2")
	wantList(t, w, "a", "b")
	wantList(t, w, "a")
}

// All edits of a call are done in the order of their planning, whatever was planned for other calls between.
func TestEditsAreDoneInTheirOrder(t *testing.T) {
	w := fresh(t, "a", "1")
	for i := range 9 {
		mustPlan(t, w, api.Edit{Before: 3 - i%3, Kind: api.EditSet, Put: 0, Blob: fmt.Sprint(i)})
	}
	for _, want := range []string{"8", "7", "6", "6"} {
		wantGet(t, w, "a", want, api.OK)
	}
}

func TestACallDoesItsWorkBehindTheEdits(t *testing.T) {
	w := fresh(t, "a", "1")
	mustPlan(t, w, api.Edit{Before: 1, Kind: api.EditDrop, Put: 0}, api.Edit{Before: 2, Kind: api.EditReplay, Put: 0, From: 0}, api.Edit{Before: 3, Kind: api.EditAdd, Name: "a", Blob: "x"})
	wantCode(t, "Delete of what was dropped", w.Delete("a"), api.ErrNone)
	wantCode(t, "Delete of what came back", w.Delete("a"), api.OK)
	mustPut(t, w, "a", "2")
	wantGet(t, w, "a", "2", api.OK)
}

// A put counts behind its own edits: one that is planned ahead of it speaks of no put yet.
func TestAnEditAheadOfItsPut(t *testing.T) {
	w := fresh(t)
	mustPlan(t, w, api.Edit{Before: 0, Kind: api.EditSet, Put: 0, Blob: "x"}, api.Edit{Before: 1, Kind: api.EditSet, Put: 1, Blob: "y"})
	mustPut(t, w, "a", "1", "b", "2")
	wantStore(t, "behind the puts", w, "a", "1", "b", "2")
}

// Puts that were refused, gets and deletes have no number among the puts.
func TestPutsAreNumberedOnTheirOwn(t *testing.T) {
	w := fresh(t)
	wantGet(t, w, "a", "", api.ErrNone)
	wantCode(t, "Put", w.Put("", "x"), api.ErrArg)
	mustPut(t, w, "a", "1")
	wantList(t, w, "a")
	wantCode(t, "Put", w.Put("c", long(api.MaxBlob+1)), api.ErrBig)
	wantCode(t, "Delete", w.Delete("none"), api.ErrNone)
	mustPut(t, w, "b", "2")
	mustPlan(t, w, api.Edit{Before: 5, Kind: api.EditSwap, Put: 0, From: 1}, api.Edit{Before: 5, Kind: api.EditSet, Put: 2, Blob: "x"})
	wantGet(t, w, "a", "2", api.OK)
	wantStore(t, "behind it", w, "a", "2", "b", "1")
}

// The register is out of the adversary's reach.
func TestNoEditTouchesTheRegister(t *testing.T) {
	w := mustAdopt(t, api.Register{Current: tagT})
	mustPut(t, w, "a", "1")
	wantCode(t, "Pend", w.Pend(tagU), api.OK)
	for kind := api.EditSet; kind <= api.EditAdd; kind++ {
		mustPlan(t, w, api.Edit{Before: 1, Kind: kind, Name: "x"})
	}
	wantCode(t, "Stop", w.Stop(), api.OK)
	w.List()
	wantKept(t, w, api.Register{Current: tagT, Pending: tagU, Stopped: true})
}

// A restore goes through a long history, and is not asked for a copy of the store for each call.
func TestRestoreOfALongHistory(t *testing.T) {
	w := fresh(t)
	const many = 60000
	for i := range many {
		mustPut(t, w, fmt.Sprint(i), "x")
	}
	for i := range many {
		if i%2 == 0 {
			wantCode(t, "Delete", w.Delete(fmt.Sprint(i)), api.OK)
		}
	}
	if n := len(w.Dump()); n != many/2 {
		t.Errorf("%d objects", n)
	}
	mustPlan(t, w, api.Edit{Before: w.Calls(), Kind: api.EditRestore, From: many})
	if l, e := w.List(); len(l) != many || e != api.OK {
		t.Errorf("restored: %d objects, %d", len(l), e)
	}
	mustPlan(t, w, api.Edit{Before: w.Calls(), Kind: api.EditRestore, From: 7})
	wantList(t, w, "0", "1", "2", "3", "4", "5", "6")
}

// P10.9

func TestTraceExample(t *testing.T) {
	w := fresh(t)
	mustPut(t, w, "b", "1", "a", "2")
	wantList(t, w, "a", "b")
	wantStore(t, "Dump", w, "a", "2", "b", "1")
	wantTrace(t, w, api.Call{Kind: api.CallPut, Name: "b", Blob: "1"}, api.Call{Kind: api.CallPut, Name: "a", Blob: "2"}, api.Call{Kind: api.CallList, Names: []string{"a", "b"}})
}

func TestTheTraceTellsEachKind(t *testing.T) {
	w := fresh(t)
	wantList(t, w)
	mustPut(t, w, "a", "1")
	wantGet(t, w, "a", "1", api.OK)
	wantGet(t, w, "b", "", api.ErrNone)
	useUp(t, w, 3)
	wantCode(t, "Pend", w.Pend(tagT), api.OK)
	wantCode(t, "Commit", w.Commit(), api.OK)
	wantCode(t, "Forget", w.Forget(), api.OK)
	wantCode(t, "Stop", w.Stop(), api.OK)
	wantGet(t, w, "", "", api.ErrArg)
	wantCode(t, "Arm", w.Arm(3), api.OK)
	mustPut(t, w, "a", "")
	wantCode(t, "Delete", w.Delete("b"), api.ErrNone)
	wantCode(t, "Delete", w.Delete("a"), api.OK)
	wantGet(t, w, "a", "", api.ErrDown)
	want := []api.Call{
		{Kind: 4}, {Kind: 2, Name: "a", Blob: "1"}, {Kind: 1, Name: "a", Reply: "1"}, {Kind: 1, Name: "b", Code: 101},
		{Kind: 2, Name: "a"}, {Kind: 3, Name: "b", Code: 101}, {Kind: 3, Name: "a"},
	}
	wantDown(t, "behind three calls", w, true)
	wantTrace(t, w, want...)
	wantCalls(t, w, len(want))
	wantTrace(t, w, want...)
}

func TestAllIsSeenWithoutPower(t *testing.T) {
	w := mustAdopt(t, api.Register{Current: tagT}, "b", "2", "a", "1")
	wantGet(t, w, "b", "2", api.OK)
	wantCode(t, "Arm", w.Arm(0), api.OK)
	for range 3 {
		wantDown(t, "without power", w, true)
		wantCalls(t, w, 1)
		wantTrace(t, w, api.Call{Kind: api.CallGet, Name: "b", Reply: "2"})
		wantStore(t, "without power", w, "a", "1", "b", "2")
		wantKept(t, w, api.Register{Current: tagT})
	}
}

// What the adversary does stands in no trace; what the store answers then does.
func TestEditsAreNoCalls(t *testing.T) {
	w := fresh(t, "a", "1")
	mustPlan(t, w, api.Edit{Before: 1, Kind: api.EditSet, Put: 0, Blob: "x"}, api.Edit{Before: 2, Kind: api.EditAdd, Name: "b"}, api.Edit{Before: 3, Kind: api.EditDrop, Put: 0})
	wantGet(t, w, "a", "x", api.OK)
	wantList(t, w, "a", "b")
	wantGet(t, w, "a", "", api.ErrNone)
	wantTrace(t, w,
		api.Call{Kind: api.CallPut, Name: "a", Blob: "1"}, api.Call{Kind: api.CallGet, Name: "a", Reply: "x"},
		api.Call{Kind: api.CallList, Names: []string{"a", "b"}}, api.Call{Kind: api.CallGet, Name: "a", Code: api.ErrNone})
}

// P10.10

// retold is the store as who reads the trace knows it.
func retold(blobs []api.Blob, trace []api.Call) []api.Blob {
	p := newPlain(blobs, api.Register{})
	for _, c := range trace {
		switch c.Kind {
		case api.CallPut:
			p.set(c.Name, c.Blob)
		case api.CallDelete:
			p.drop(c.Name)
		}
	}
	return p.objects
}

func TestWhoReadsTheTraceKnowsTheStore(t *testing.T) {
	some := rand.New(rand.NewSource(1010))
	for range 60 {
		blobs := asBlobs("c", "1", "aa", "", "\x00", "2")[:some.Intn(4)]
		d := newPair(t, blobs, api.Register{})
		for range 150 {
			d.anyStep(t, some, false)
			if got, want := d.w.Dump(), retold(blobs, d.w.Trace()); !slices.Equal(got, want) {
				t.Fatalf("the store holds %q, want %q", got, want)
			}
		}
	}
}

func TestAnAdoptedWorldGoesOnAsTheOther(t *testing.T) {
	some := rand.New(rand.NewSource(1011))
	for range 60 {
		d := newPair(t, asBlobs("a", "1", "b", "2"), api.Register{Current: tagT})
		for range 100 {
			d.anyStep(t, some, true)
		}
		d.power()
		for len(d.p.calls) < 200 { // no edit waits any more
			d.store(t, api.CallGet, "a", "")
		}
		w, e := Adopt(d.w.Dump(), d.w.Kept())
		if w == nil || e != api.OK {
			t.Fatalf("Adopt of a world's own: %d", e)
		}
		passed := d.w.Calls()
		other := pair{w, d.p}
		again := rand.New(rand.NewSource(some.Int63()))
		for i := range 100 {
			seed := again.Int63()
			before := *d.p
			d.anyStep(t, rand.New(rand.NewSource(seed)), false)
			*other.p = before
			other.anyStep(t, rand.New(rand.NewSource(seed)), false)
			if !slices.Equal(w.Dump(), d.w.Dump()) || w.Kept() != d.w.Kept() || w.Down() != d.w.Down() {
				t.Fatalf("step %d: %q, %+v, want %q, %+v", i, w.Dump(), w.Kept(), d.w.Dump(), d.w.Kept())
			}
		}
		if !slices.EqualFunc(w.Trace(), d.w.Trace()[passed:], sameCall) || w.Calls() != d.w.Calls()-passed {
			t.Fatalf("the trace of the adopted world: %d calls, want %d", w.Calls(), d.w.Calls()-passed)
		}
	}
}
