package pool

import (
	"fmt"
	"math"
	"math/rand"
	"slices"
	"strings"
	"sync"
	"testing"

	"casket/api"
)

// told is sixteen bytes of a letter.
func told(letter string) string { return strings.Repeat(letter, 16) }

func object(name, tag string, bucket, owner int) api.Object {
	return api.Object{Name: name, Tag: tag, Bucket: bucket, Owner: owner}
}

var blank = object("", "", 0, -1)

func mustNew(t *testing.T, files, slots int) *Pool {
	t.Helper()
	p, e := New(files, slots)
	if p == nil || e != api.OK {
		t.Fatalf("New(%d, %d): %v, %d", files, slots, p, e)
	}
	return p
}

func mustLoad(t *testing.T, s api.PoolState, files, slots int) *Pool {
	t.Helper()
	p, e := Load(s, files, slots)
	if p == nil || e != api.OK {
		t.Fatalf("Load(%v, %d, %d): %v, %d", s, files, slots, p, e)
	}
	return p
}

func mustPop(t *testing.T, p *Pool, times int) {
	t.Helper()
	for range times {
		if _, e := p.Pop(); e != api.OK {
			t.Fatalf("Pop: %d", e)
		}
	}
}

func sameState(a, b api.PoolState) bool {
	return slices.Equal(a.Objects, b.Objects) && slices.Equal(a.Queue, b.Queue)
}

func wantState(t *testing.T, p *Pool, want api.PoolState) {
	t.Helper()
	if s := p.State(); !sameState(s, want) {
		t.Errorf("State: %v, want %v", s, want)
	}
}

func wantQueue(t *testing.T, p *Pool, want ...int) {
	t.Helper()
	if q := p.State().Queue; !slices.Equal(q, want) {
		t.Errorf("the queue: %v, want %v", q, want)
	}
}

func wantNew(t *testing.T, files, slots int, fault api.Errno) {
	t.Helper()
	if p, e := New(files, slots); e != fault || (p == nil) != (fault != api.OK) {
		t.Errorf("New(%d, %d): %v, %d, want %d", files, slots, p, e, fault)
	}
}

func wantLoad(t *testing.T, what string, s api.PoolState, files, slots int, fault api.Errno) {
	t.Helper()
	p, e := Load(s, files, slots)
	if e != fault || (p == nil) != (fault != api.OK) {
		t.Errorf("%s: Load: %v, %d, want %d", what, p, e, fault)
	}
	if p != nil {
		wantState(t, p, s)
	}
}

func wantAt(t *testing.T, p *Pool, i int, want api.Object, fault api.Errno) {
	t.Helper()
	if o, e := p.At(i); o != want || e != fault {
		t.Errorf("At(%d): %v, %d, want %v, %d", i, o, e, want, fault)
	}
}

func wantRow(t *testing.T, what string, i int, e api.Errno, want int, fault api.Errno) {
	t.Helper()
	if i != want || e != fault {
		t.Errorf("%s: %d, %d, want %d, %d", what, i, e, want, fault)
	}
}

func wantOwner(t *testing.T, p *Pool, file, want int, fault api.Errno) {
	t.Helper()
	i, e := p.ByOwner(file)
	wantRow(t, fmt.Sprintf("ByOwner(%d)", file), i, e, want, fault)
}

func wantName(t *testing.T, p *Pool, name string, want int, fault api.Errno) {
	t.Helper()
	i, e := p.ByName(name)
	wantRow(t, fmt.Sprintf("ByName(%q)", name), i, e, want, fault)
}

func wantPop(t *testing.T, p *Pool, want int, fault api.Errno) {
	t.Helper()
	i, e := p.Pop()
	wantRow(t, "Pop", i, e, want, fault)
}

func wantCode(t *testing.T, what string, e, fault api.Errno) {
	t.Helper()
	if e != fault {
		t.Errorf("%s: %d, want %d", what, e, fault)
	}
}

// What follows does the document's words once more, with nothing but the rows and the queue as lists that are gone through,
// against which the program is held.

type plainPool struct {
	files int
	rows  []api.Object
	queue []int
}

func newPlain(files, slots int) *plainPool {
	p := &plainPool{files: files}
	for i := range files + slots {
		p.rows = append(p.rows, blank)
		p.queue = append(p.queue, i)
	}
	return p
}

func (p *plainPool) copy() *plainPool {
	return &plainPool{p.files, slices.Clone(p.rows), slices.Clone(p.queue)}
}

func (p *plainPool) state() api.PoolState { return api.PoolState{Objects: p.rows, Queue: p.queue} }

func (p *plainPool) settled() bool {
	for i, o := range p.rows {
		if o.Owner == -1 && !slices.Contains(p.queue, i) {
			return false
		}
	}
	return true
}

func (p *plainPool) at(i int) (api.Object, api.Errno) {
	if i < 0 || i >= len(p.rows) {
		return api.Object{}, 131
	}
	return p.rows[i], 0
}

func (p *plainPool) byOwner(file int) (int, api.Errno) {
	if file < 0 || file > p.files-1 {
		return 0, 1
	}
	for i, o := range p.rows {
		if o.Owner == file {
			return i, 0
		}
	}
	return 0, 132
}

func (p *plainPool) byName(name string) (int, api.Errno) {
	for i, o := range p.rows {
		if o.Name == name && name != "" {
			return i, 0
		}
	}
	return 0, 131
}

func (p *plainPool) pop() (int, api.Errno) {
	if len(p.queue) == 0 {
		return 0, 131
	}
	i := p.queue[0]
	p.queue = slices.Clone(p.queue[1:])
	return i, 0
}

func (p *plainPool) push(i int) api.Errno {
	o, e := p.at(i)
	if e != 0 {
		return e
	}
	if o.Owner != -1 || slices.Contains(p.queue, i) {
		return 132
	}
	p.queue = append(p.queue, i)
	return 0
}

func (p *plainPool) assign(i, file int) api.Errno {
	o, e := p.at(i)
	if e != 0 {
		return e
	}
	_, e = p.byOwner(file)
	if e == 1 {
		return 1
	}
	if e == 0 || o.Owner != -1 || slices.Contains(p.queue, i) {
		return 132
	}
	p.rows[i].Owner = file
	return 0
}

func (p *plainPool) release(i int) api.Errno {
	o, e := p.at(i)
	if e != 0 {
		return e
	}
	if o.Owner == -1 {
		return 132
	}
	p.rows[i].Owner = -1
	return 0
}

func plainText(s string) bool { return len(s) == 0 || len(s) == 16 }

func (p *plainPool) set(i int, name, tag string, bucket int) api.Errno {
	o, e := p.at(i)
	if e != 0 {
		return e
	}
	if !plainText(name) || !plainText(tag) || bucket < 0 || bucket > 1048576 {
		return 1
	}
	if j, e := p.byName(name); e == 0 && j != i {
		return 1
	}
	p.rows[i] = api.Object{Name: name, Tag: tag, Bucket: bucket, Owner: o.Owner}
	return 0
}

// plainIsState asks for each of the words that make a settled pool.
func plainIsState(s api.PoolState, files, slots int) bool {
	if len(s.Objects) != files+slots {
		return false
	}
	var dummies []int
	for i, o := range s.Objects {
		if !plainText(o.Name) || !plainText(o.Tag) || o.Bucket < 0 || o.Bucket > 1048576 || o.Owner < -1 || o.Owner >= files {
			return false
		}
		for _, other := range s.Objects[:i] {
			if o.Name != "" && o.Name == other.Name || o.Owner != -1 && o.Owner == other.Owner {
				return false
			}
		}
		if o.Owner == -1 {
			dummies = append(dummies, i)
		}
	}
	return slices.Equal(slices.Sorted(slices.Values(s.Queue)), dummies)
}

// hold looks at all that can be seen of both, and holds it against one another.
func hold(t *testing.T, p *Pool, plain *plainPool) {
	t.Helper()
	wantState(t, p, plain.state())
	if n := p.Count(); n != len(plain.rows) {
		t.Errorf("Count: %d, want %d", n, len(plain.rows))
	}
	for i := -1; i <= len(plain.rows); i++ {
		o, e := plain.at(i)
		wantAt(t, p, i, o, e)
	}
	for file := -2; file <= plain.files+1; file++ {
		i, e := plain.byOwner(file)
		wantOwner(t, p, file, i, e)
	}
	for _, name := range names {
		i, e := plain.byName(name)
		wantName(t, p, name, i, e)
	}
	if t.Failed() {
		t.FailNow()
	}
}

// Few names, so that most meet a row; some that may not be.
var names = []string{"", "", "n", told("a"), told("b"), told("c"), told("d"), told("e"), told("f"), told("\x00"), told("\xff"), told("a")[1:], told("a") + "a", told("a")[1:] + "b"}

func someNumber(r *rand.Rand, most int) int {
	switch r.Intn(20) {
	case 0:
		return -1
	case 1:
		return most
	case 2:
		return math.MinInt
	case 3:
		return math.MaxInt
	}
	return r.Intn(most)
}

// step does one call in both, and tells which and what it answered.
func step(t *testing.T, r *rand.Rand, p *Pool, plain *plainPool) (int, api.Errno) {
	t.Helper()
	i, file := someNumber(r, len(plain.rows)), someNumber(r, plain.files)
	var want, got api.Errno
	kind := r.Intn(7)
	switch kind {
	case 0, 1:
		var a, b int
		a, want = plain.pop()
		b, got = p.Pop()
		wantRow(t, "Pop", b, got, a, want)
	case 2:
		want, got = plain.push(i), p.Push(i)
	case 3, 4:
		want, got = plain.assign(i, file), p.Assign(i, file)
	case 5:
		want, got = plain.release(i), p.Release(i)
	case 6:
		name, tag := names[r.Intn(len(names))], names[r.Intn(len(names))]
		bucket := []int{-1, 0, 1, 16, 64, 1 << 20, 1<<20 + 1, math.MinInt, math.MaxInt}[r.Intn(9)]
		want, got = plain.set(i, name, tag, bucket), p.Set(i, name, tag, bucket)
	}
	wantCode(t, fmt.Sprintf("call %d of row %d and file %d", kind, i, file), got, want)
	return kind, want
}

// P13.2

func TestNewsLimits(t *testing.T) {
	for _, c := range [][2]int{{1, 1}, {65536, 1}, {1, 64}, {65536, 64}, {2, 3}} {
		wantNew(t, c[0], c[1], api.OK)
	}
	for _, far := range []int{-1, 0, math.MinInt, math.MaxInt} {
		wantNew(t, far, 1, api.ErrArg)
		wantNew(t, 1, far, api.ErrArg)
		wantNew(t, far, far, api.ErrArg)
	}
	wantNew(t, 65537, 1, api.ErrArg)
	wantNew(t, 1, 65, api.ErrArg)
}

func TestNewIsDummiesInTheirOrder(t *testing.T) {
	wantState(t, mustNew(t, 2, 3), api.PoolState{Objects: []api.Object{blank, blank, blank, blank, blank}, Queue: []int{0, 1, 2, 3, 4}})
	wantState(t, mustNew(t, 1, 1), api.PoolState{Objects: []api.Object{blank, blank}, Queue: []int{0, 1}})
	p := mustNew(t, 65536, 64)
	hold := newPlain(65536, 64)
	wantState(t, p, hold.state())
	if p.Count() != 65600 {
		t.Errorf("Count: %d", p.Count())
	}
}

// P13.3

func goodState() api.PoolState {
	return api.PoolState{
		Objects: []api.Object{object(told("a"), told("t"), 64, 1), object("", told("t"), 1<<20, -1), object(told("c"), "", 0, -1), object("", "", 0, 0), blank},
		Queue:   []int{4, 1, 2},
	}
}

func TestLoadTakesStates(t *testing.T) {
	wantLoad(t, "good", goodState(), 2, 3, api.OK)
	wantLoad(t, "more files, fewer slots", goodState(), 4, 1, api.OK)
	wantLoad(t, "new", mustNew(t, 3, 2).State(), 3, 2, api.OK)
	wantLoad(t, "the greatest", mustNew(t, 65536, 64).State(), 65536, 64, api.OK)
	wantLoad(t, "all files", api.PoolState{Objects: []api.Object{object("", "", 0, 1), blank, object("", "", 0, 0)}, Queue: []int{1}}, 2, 1, api.OK)

	p := mustLoad(t, goodState(), 2, 3)
	wantOwner(t, p, 1, 0, api.OK)
	wantOwner(t, p, 0, 3, api.OK)
	wantName(t, p, told("a"), 0, api.OK)
	wantName(t, p, told("c"), 2, api.OK)
	wantAt(t, p, 1, object("", told("t"), 1<<20, -1), api.OK)
	wantCode(t, "Push of a queued row", p.Push(1), api.ErrOwner)
	wantCode(t, "Set of a name that is there", p.Set(4, told("c"), "", 0), api.ErrArg)
	wantPop(t, p, 4, api.OK)
	wantPop(t, p, 1, api.OK)
	wantPop(t, p, 2, api.OK)
	wantPop(t, p, 0, api.ErrObject)
	wantCode(t, "Assign of a file that is held", p.Assign(4, 0), api.ErrOwner)
	wantCode(t, "Release", p.Release(0), api.OK)
	wantCode(t, "Assign", p.Assign(4, 1), api.OK)
	wantOwner(t, p, 1, 4, api.OK)
}

func TestLoadsFaults(t *testing.T) {
	for _, c := range [][2]int{{0, 5}, {5, 0}, {-1, 6}, {6, -1}, {65537, 1}, {1, 65}, {math.MinInt, 1}, {1, math.MaxInt}, {math.MaxInt, 1}} {
		wantLoad(t, "room", goodState(), c[0], c[1], api.ErrArg)
		wantLoad(t, "room ahead of the rest", api.PoolState{}, c[0], c[1], api.ErrArg)
	}
	wantLoad(t, "more rows than room", goodState(), 2, 2, api.ErrPool)
	wantLoad(t, "fewer rows than room", goodState(), 2, 4, api.ErrPool)
	wantLoad(t, "a file past the files", goodState(), 1, 4, api.ErrPool)
	wantLoad(t, "nothing", api.PoolState{}, 2, 3, api.ErrPool)
	wantLoad(t, "empty lists", api.PoolState{Objects: []api.Object{}, Queue: []int{}}, 2, 3, api.ErrPool)
	for what, spoil := range map[string]func(*api.PoolState){
		"a name twice":                func(s *api.PoolState) { s.Objects[2].Name = told("a") },
		"a name twice, the last":      func(s *api.PoolState) { s.Objects[4].Name = told("c") },
		"a name of 15":                func(s *api.PoolState) { s.Objects[4].Name = told("x")[1:] },
		"a name of 17":                func(s *api.PoolState) { s.Objects[4].Name = told("x") + "x" },
		"a name of 1":                 func(s *api.PoolState) { s.Objects[0].Name = "a" },
		"a tag of 15":                 func(s *api.PoolState) { s.Objects[4].Tag = told("x")[1:] },
		"a tag of 17":                 func(s *api.PoolState) { s.Objects[4].Tag = told("x") + "x" },
		"a tag of 3":                  func(s *api.PoolState) { s.Objects[1].Tag = "abc" },
		"a bucket of -1":              func(s *api.PoolState) { s.Objects[1].Bucket = -1 },
		"a bucket past the most":      func(s *api.PoolState) { s.Objects[1].Bucket = 1<<20 + 1 },
		"a bucket far off":            func(s *api.PoolState) { s.Objects[4].Bucket = math.MaxInt },
		"a bucket far below":          func(s *api.PoolState) { s.Objects[4].Bucket = math.MinInt },
		"a file twice":                func(s *api.PoolState) { s.Objects[3].Owner = 1 },
		"a file 2 of 2":               func(s *api.PoolState) { s.Objects[3].Owner = 2 },
		"an owner -2":                 func(s *api.PoolState) { s.Objects[3].Owner = -2 },
		"an owner far off":            func(s *api.PoolState) { s.Objects[3].Owner = math.MaxInt },
		"an owner far below":          func(s *api.PoolState) { s.Objects[3].Owner = math.MinInt },
		"a queued row with a file":    func(s *api.PoolState) { s.Objects[3].Owner, s.Objects[4].Owner = -1, 0 },
		"four rows":                   func(s *api.PoolState) { s.Objects, s.Queue = s.Objects[:4], s.Queue[1:] },
		"six rows":                    func(s *api.PoolState) { s.Objects, s.Queue = append(s.Objects, blank), append(s.Queue, 5) },
		"a file's row is queued":      func(s *api.PoolState) { s.Queue[0] = 0 },
		"a file's row, too":           func(s *api.PoolState) { s.Queue = append(s.Queue, 3) },
		"a dummy twice":               func(s *api.PoolState) { s.Queue[0] = 1 },
		"a dummy twice, and all":      func(s *api.PoolState) { s.Queue = append(s.Queue, 4) },
		"not all":                     func(s *api.PoolState) { s.Queue = s.Queue[1:] },
		"not the last":                func(s *api.PoolState) { s.Queue = s.Queue[:2] },
		"none":                        func(s *api.PoolState) { s.Queue = nil },
		"row 5 is queued":             func(s *api.PoolState) { s.Queue[0] = 5 },
		"row -1 is queued":            func(s *api.PoolState) { s.Queue[0] = -1 },
		"a row far off is queued":     func(s *api.PoolState) { s.Queue[0] = math.MaxInt },
		"a row far below is queued":   func(s *api.PoolState) { s.Queue[0] = math.MinInt },
		"row 5 is queued, too":        func(s *api.PoolState) { s.Queue = append(s.Queue, 5) },
		"a file's row became a dummy": func(s *api.PoolState) { s.Objects[0].Owner = -1 },
	} {
		s := goodState()
		spoil(&s)
		wantLoad(t, what, s, 2, 3, api.ErrPool)
	}
}

// States of random runs, with some of their numbers and texts changed: Load takes just what the document's words take.
func TestLoadTakesStatesAlone(t *testing.T) {
	r := rand.New(rand.NewSource(133))
	taken, refused := 0, 0
	for range 20000 {
		files, slots := 1+r.Intn(4), 1+r.Intn(3)
		s := someState(r, files, slots)
		for range r.Intn(3) {
			spoil(r, &s)
		}
		fault := api.OK
		if plainIsState(s, files, slots) {
			taken++
		} else {
			fault = api.ErrPool
			refused++
		}
		wantLoad(t, fmt.Sprint(s), s, files, slots, fault)
		if t.Failed() {
			return
		}
	}
	if taken < 1000 || refused < 1000 {
		t.Errorf("%d states were taken, %d refused: too few to say something", taken, refused)
	}
}

// someState is a state of a settled pool.
func someState(r *rand.Rand, files, slots int) api.PoolState {
	s := newPlain(files, slots).state()
	for file, i := range r.Perm(files + slots)[:files] {
		if r.Intn(3) > 0 {
			s.Objects[i].Owner = file
		}
	}
	letters := r.Perm(20)
	for i := range s.Objects {
		if r.Intn(3) > 0 {
			s.Objects[i].Name, s.Objects[i].Bucket = told(string(rune('a'+letters[i]))), r.Intn(100)
		}
	}
	r.Shuffle(len(s.Queue), func(a, b int) { s.Queue[a], s.Queue[b] = s.Queue[b], s.Queue[a] })
	s.Queue = slices.DeleteFunc(s.Queue, func(i int) bool { return s.Objects[i].Owner != -1 })
	return s
}

func spoil(r *rand.Rand, s *api.PoolState) {
	o := &s.Objects[r.Intn(len(s.Objects))]
	switch r.Intn(7) {
	case 0:
		o.Name = names[r.Intn(len(names))]
	case 1:
		o.Tag = names[r.Intn(len(names))]
	case 2:
		o.Bucket = r.Intn(6) - 1
	case 3:
		o.Owner = r.Intn(8) - 2
	case 4:
		s.Queue = append(s.Queue, r.Intn(9)-1)
	case 5:
		if len(s.Queue) > 0 {
			s.Queue[r.Intn(len(s.Queue))] = r.Intn(9) - 1
		}
	case 6:
		if len(s.Queue) > 0 {
			i := r.Intn(len(s.Queue))
			s.Queue = slices.Delete(s.Queue, i, i+1)
		}
	}
}

func TestLoadOfWhatIsNotSettled(t *testing.T) {
	p := mustNew(t, 2, 3)
	mustPop(t, p, 1)
	wantLoad(t, "a row is out", p.State(), 2, 3, api.ErrPool)
	p.Push(0)
	wantLoad(t, "all rows are queued", p.State(), 2, 3, api.OK)
	mustPop(t, p, 1)
	p.Assign(1, 0)
	wantLoad(t, "a row is a file's", p.State(), 2, 3, api.OK)
	p.Release(1)
	wantLoad(t, "a row was released", p.State(), 2, 3, api.ErrPool)
}

// P13.1

func TestStateIsNewMemory(t *testing.T) {
	p := mustLoad(t, goodState(), 2, 3)
	for range 2 {
		s := p.State()
		for i := range s.Objects[:cap(s.Objects)] {
			s.Objects[:cap(s.Objects)][i] = object("spoilt", "spoilt", -5, -5)
		}
		for i := range s.Queue[:cap(s.Queue)] {
			s.Queue[:cap(s.Queue)][i] = -5
		}
		wantState(t, p, goodState())
		wantName(t, p, told("a"), 0, api.OK)
	}
	wantPop(t, p, 4, api.OK)
	p.Push(4)
	wantQueue(t, p, 1, 2, 4)
}

// The queue lies round the end of its room here, or fills it.
func TestStateIsNewMemoryOfAnyQueue(t *testing.T) {
	for pops := range 12 {
		p, plain := mustNew(t, 4, 3), newPlain(4, 3)
		for range pops {
			i, _ := p.Pop()
			p.Push(i)
			i, _ = plain.pop()
			plain.push(i)
		}
		for range 7 {
			q := p.State().Queue
			for i := range q[:cap(q)] {
				q[:cap(q)][i] = -5
			}
			wantState(t, p, plain.state())
			i, e := plain.pop()
			wantPop(t, p, i, e)
		}
	}
}

func TestWhatIsHandedInStays(t *testing.T) {
	s := goodState()
	s.Objects = append(slices.Clone(s.Objects), object("spare", "spare", 7, 7))[:5]
	s.Queue = append(slices.Clone(s.Queue), 77)[:3]
	for _, room := range [][2]int{{2, 3}, {2, 4}, {1, 4}, {0, 5}} {
		if p, _ := Load(s, room[0], room[1]); p != nil {
			p.Pop()
			p.Push(4)
			p.Set(0, told("z"), told("z"), 9)
			p.Release(0)
		}
		if !sameState(s, goodState()) || s.Objects[:6][5] != object("spare", "spare", 7, 7) || s.Queue[:4][3] != 77 {
			t.Errorf("the state that was handed in: %v", s)
		}
	}
}

func TestWhatIsHandedInIsNotKept(t *testing.T) {
	s := goodState()
	p := mustLoad(t, s, 2, 3)
	for i := range s.Objects {
		s.Objects[i] = object("spoilt", "spoilt", -5, -5)
	}
	for i := range s.Queue {
		s.Queue[i] = 0
	}
	wantState(t, p, goodState())
	wantPop(t, p, 4, api.OK)
	wantPop(t, p, 1, api.OK)
}

func TestPoolsThatAreNotThere(t *testing.T) {
	for _, p := range []*Pool{nil, {}, new(Pool)} {
		wantState(t, p, api.PoolState{})
		if c := p.Copy(); c != nil || p.Count() != 0 {
			t.Errorf("Copy: %v, Count: %d", c, p.Count())
		}
		for _, n := range []int{-1, 0, 1, math.MinInt, math.MaxInt} {
			wantAt(t, p, n, api.Object{}, api.ErrNil)
			wantOwner(t, p, n, 0, api.ErrNil)
			wantCode(t, "Push", p.Push(n), api.ErrNil)
			wantCode(t, "Assign", p.Assign(n, 0), api.ErrNil)
			wantCode(t, "Assign", p.Assign(0, n), api.ErrNil)
			wantCode(t, "Release", p.Release(n), api.ErrNil)
			wantCode(t, "Set", p.Set(n, "", "", 0), api.ErrNil)
			wantCode(t, "Set", p.Set(0, "x", "x", n), api.ErrNil)
		}
		wantName(t, p, "", 0, api.ErrNil)
		wantName(t, p, told("n"), 0, api.ErrNil)
		wantPop(t, p, 0, api.ErrNil)
	}
}

func TestManyPoolsAtOnce(t *testing.T) {
	var all sync.WaitGroup
	first := mustLoad(t, goodState(), 2, 3)
	for seed := range 8 {
		p, plain := first.Copy(), &plainPool{2, goodState().Objects, goodState().Queue}
		all.Add(1)
		go func() {
			defer all.Done()
			r := rand.New(rand.NewSource(int64(seed)))
			for range 500 {
				step(t, r, p, plain)
			}
			wantState(t, p, plain.state())
		}()
	}
	all.Wait()
	wantState(t, first, goodState())
}

// P13.4

func TestCopiesDoNotTouch(t *testing.T) {
	r := rand.New(rand.NewSource(134))
	for range 200 {
		p, plain := mustNew(t, 3, 2), newPlain(3, 2)
		for range r.Intn(30) {
			step(t, r, p, plain)
		}
		c, other := p.Copy(), plain.copy()
		hold(t, c, other)
		for range 20 {
			step(t, r, p, plain)
			step(t, r, c, other)
		}
		hold(t, p, plain)
		hold(t, c, other)
	}
}

func TestCopyOfWhatIsNotSettled(t *testing.T) {
	p := mustNew(t, 2, 3)
	mustPop(t, p, 5)
	p.Assign(2, 1)
	p.Set(2, told("n"), told("t"), 5)
	p.Push(4)
	c := p.Copy()
	want := api.PoolState{Objects: []api.Object{blank, blank, object(told("n"), told("t"), 5, 1), blank, blank}, Queue: []int{4}}
	wantState(t, c, want)
	c.Push(0)
	c.Release(2)
	c.Set(3, told("m"), "", 1)
	wantState(t, p, want)
	wantName(t, p, told("m"), 0, api.ErrObject)
	wantOwner(t, p, 1, 2, api.OK)
	wantOwner(t, c, 1, 0, api.ErrOwner)
	wantName(t, c, told("m"), 3, api.OK)
	wantQueue(t, c, 4, 0)
}

func TestTwoPoolsHaveNothingInCommon(t *testing.T) {
	a, b := mustNew(t, 2, 3), mustNew(t, 2, 3)
	mustPop(t, a, 5)
	a.Assign(0, 0)
	a.Set(0, told("n"), "", 0)
	hold(t, b, newPlain(2, 3))
	wantCode(t, "Set", b.Set(1, told("n"), "", 0), api.OK)
}

func TestAtsLimits(t *testing.T) {
	p := mustLoad(t, goodState(), 2, 3)
	for i, o := range goodState().Objects {
		wantAt(t, p, i, o, api.OK)
	}
	for _, i := range []int{-1, 5, 6, math.MinInt, math.MaxInt} {
		wantAt(t, p, i, api.Object{}, api.ErrObject)
	}
	if p.Count() != 5 {
		t.Errorf("Count: %d", p.Count())
	}
	big := mustNew(t, 65536, 64)
	wantAt(t, big, 65599, blank, api.OK)
	wantAt(t, big, 65600, api.Object{}, api.ErrObject)
}

// P13.5

func TestByOwner(t *testing.T) {
	p := mustNew(t, 2, 3)
	for _, file := range []int{-1, 2, 3, math.MinInt, math.MaxInt} {
		wantOwner(t, p, file, 0, api.ErrArg)
	}
	wantOwner(t, p, 0, 0, api.ErrOwner)
	wantOwner(t, p, 1, 0, api.ErrOwner)
	mustPop(t, p, 3)
	p.Assign(2, 1)
	wantOwner(t, p, 1, 2, api.OK)
	wantOwner(t, p, 0, 0, api.ErrOwner)
	p.Set(2, told("n"), told("t"), 3)
	wantOwner(t, p, 1, 2, api.OK)
	p.Release(2)
	wantOwner(t, p, 1, 0, api.ErrOwner)
	p.Assign(0, 1)
	wantOwner(t, p, 1, 0, api.OK)
}

func TestByName(t *testing.T) {
	p := mustNew(t, 2, 3)
	n, m := told("n"), told("m")
	for _, name := range []string{"", n, "n", n[1:], n + "n"} {
		wantName(t, p, name, 0, api.ErrObject)
	}
	p.Set(4, n, "", 0)
	wantName(t, p, n, 4, api.OK)
	wantName(t, p, m, 0, api.ErrObject)
	p.Set(4, m, "", 0)
	wantName(t, p, n, 0, api.ErrObject)
	wantName(t, p, m, 4, api.OK)
	p.Set(1, n, "", 0)
	wantName(t, p, n, 1, api.OK)
	p.Set(1, "", "", 0)
	wantName(t, p, n, 0, api.ErrObject)
	wantName(t, p, "", 0, api.ErrObject)
	// A tag is no name.
	p.Set(1, "", n, 0)
	wantName(t, p, n, 0, api.ErrObject)
}

// P13.6

func TestPushsFaults(t *testing.T) {
	p := mustNew(t, 2, 3)
	mustPop(t, p, 2)
	p.Assign(0, 0)
	want := p.State()
	for _, i := range []int{-1, 5, math.MinInt, math.MaxInt} {
		wantCode(t, "no row", p.Push(i), api.ErrObject)
	}
	wantCode(t, "a file's", p.Push(0), api.ErrOwner)
	wantCode(t, "the head", p.Push(2), api.ErrOwner)
	wantCode(t, "queued", p.Push(4), api.ErrOwner)
	wantState(t, p, want)
	wantCode(t, "out", p.Push(1), api.OK)
	wantCode(t, "queued now", p.Push(1), api.ErrOwner)
	wantQueue(t, p, 2, 3, 4, 1)
}

func TestPopOfNothing(t *testing.T) {
	p := mustNew(t, 1, 1)
	wantPop(t, p, 0, api.OK)
	wantPop(t, p, 1, api.OK)
	for range 3 {
		wantPop(t, p, 0, api.ErrObject)
	}
	wantQueue(t, p)
	wantCode(t, "Push", p.Push(1), api.OK)
	wantPop(t, p, 1, api.OK)
	wantPop(t, p, 0, api.ErrObject)
}

// P13.7

func TestAssignsFaults(t *testing.T) {
	p := mustNew(t, 3, 2)
	mustPop(t, p, 3)
	p.Assign(0, 2)
	p.Set(1, told("n"), told("t"), 7)
	want := p.State()
	for _, i := range []int{-1, 5, math.MinInt, math.MaxInt} {
		for _, file := range []int{-1, 0, 2, 3} {
			wantCode(t, "no row", p.Assign(i, file), api.ErrObject)
		}
	}
	for _, file := range []int{-1, 3, math.MinInt, math.MaxInt} {
		for i := range 5 {
			wantCode(t, "no file", p.Assign(i, file), api.ErrArg)
		}
	}
	wantCode(t, "a file's row", p.Assign(0, 1), api.ErrOwner)
	wantCode(t, "its own file", p.Assign(0, 2), api.ErrOwner)
	wantCode(t, "a queued row", p.Assign(3, 0), api.ErrOwner)
	wantCode(t, "another row's file", p.Assign(1, 2), api.ErrOwner)
	wantCode(t, "a queued row and another row's file", p.Assign(4, 2), api.ErrOwner)
	wantState(t, p, want)
	wantCode(t, "Assign", p.Assign(1, 0), api.OK)
	wantAt(t, p, 1, object(told("n"), told("t"), 7, 0), api.OK)
	wantCode(t, "the other", p.Assign(2, 1), api.OK)
	wantQueue(t, p, 3, 4)
}

func TestRelease(t *testing.T) {
	p := mustNew(t, 2, 3)
	mustPop(t, p, 2)
	p.Assign(0, 1)
	p.Set(0, told("n"), told("t"), 7)
	for _, i := range []int{-1, 5, math.MinInt, math.MaxInt} {
		wantCode(t, "no row", p.Release(i), api.ErrObject)
	}
	wantCode(t, "a dummy that is out", p.Release(1), api.ErrOwner)
	wantCode(t, "a dummy that is queued", p.Release(2), api.ErrOwner)
	wantCode(t, "a file's", p.Release(0), api.OK)
	wantAt(t, p, 0, object(told("n"), told("t"), 7, -1), api.OK)
	wantName(t, p, told("n"), 0, api.OK)
	wantQueue(t, p, 2, 3, 4)
	wantCode(t, "again", p.Release(0), api.ErrOwner)
	wantCode(t, "Assign of what is out", p.Assign(0, 0), api.OK)
	wantCode(t, "Release", p.Release(0), api.OK)
	wantCode(t, "Push of what is out", p.Push(0), api.OK)
	wantQueue(t, p, 2, 3, 4, 0)
}

// P13.8

func TestSetsFaults(t *testing.T) {
	p := mustNew(t, 2, 3)
	n, m, tag := told("n"), told("m"), told("t")
	wantCode(t, "Set", p.Set(0, n, tag, 64), api.OK)
	want := p.State()
	for _, i := range []int{-1, 5, math.MinInt, math.MaxInt} {
		wantCode(t, "no row", p.Set(i, m, tag, 1), api.ErrObject)
		wantCode(t, "no row ahead of the rest", p.Set(i, "x", "x", -1), api.ErrObject)
	}
	for _, text := range []string{"x", n[1:], m + "m", m[1:], strings.Repeat("m", 32), strings.Repeat("m", 1<<16)} {
		wantCode(t, "no name", p.Set(1, text, tag, 1), api.ErrArg)
		wantCode(t, "no tag", p.Set(1, m, text, 1), api.ErrArg)
	}
	for _, bucket := range []int{-1, 1<<20 + 1, math.MinInt, math.MaxInt} {
		wantCode(t, "no bucket", p.Set(1, m, tag, bucket), api.ErrArg)
	}
	wantCode(t, "another row's name", p.Set(1, n, tag, 64), api.ErrArg)
	wantState(t, p, want)
	wantName(t, p, n, 0, api.OK)
	wantName(t, p, m, 0, api.ErrObject)
}

func TestSet(t *testing.T) {
	p := mustNew(t, 2, 3)
	n, m, tag := told("n"), told("m"), told("t")
	mustPop(t, p, 2)
	p.Assign(0, 1)
	for _, o := range []api.Object{object(n, tag, 64, 1), object(n, tag, 64, 1), object(n, tag, 70, 1), object(n, m, 70, 1), object(n, "", 0, 1), object(m, n, 1<<20, 1), object("", tag, 1, 1), object("", "", 0, 1)} {
		wantCode(t, "Set", p.Set(0, o.Name, o.Tag, o.Bucket), api.OK)
		wantAt(t, p, 0, o, api.OK)
		wantOwner(t, p, 1, 0, api.OK)
	}
	// Rows without a name, and rows with one tag, may be many.
	for i := range 5 {
		wantCode(t, "no name", p.Set(i, "", tag, 5), api.OK)
	}
	wantQueue(t, p, 2, 3, 4)
	wantCode(t, "a queued row", p.Set(3, n, tag, 5), api.OK)
	wantQueue(t, p, 2, 3, 4)
	wantCode(t, "still queued", p.Push(3), api.ErrOwner)
	wantCode(t, "a row that is out", p.Set(1, m, tag, 5), api.OK)
	wantCode(t, "still out", p.Push(1), api.OK)
	// A name that was given up may be another row's.
	wantCode(t, "given up", p.Set(3, "", "", 0), api.OK)
	wantCode(t, "taken by another", p.Set(1, n, "", 0), api.OK)
	wantCode(t, "and the other's", p.Set(3, m, "", 0), api.OK)
	wantName(t, p, n, 1, api.OK)
	wantName(t, p, m, 3, api.OK)
}

// P13.9

func TestRandomRuns(t *testing.T) {
	r := rand.New(rand.NewSource(139))
	done := map[int]int{}
	for range 300 {
		files, slots := 1+r.Intn(4), 1+r.Intn(4)
		p, plain := mustNew(t, files, slots), newPlain(files, slots)
		if r.Intn(2) == 0 {
			s := someState(r, files, slots)
			p, plain = mustLoad(t, s, files, slots), &plainPool{files, slices.Clone(s.Objects), slices.Clone(s.Queue)}
		}
		for range 100 {
			kind, e := step(t, r, p, plain)
			if e == api.OK {
				done[kind]++
			}
			hold(t, p, plain)
			holdRows(t, p, files, slots)
		}
		fault := api.ErrPool
		if plain.settled() {
			fault = api.OK
		}
		wantLoad(t, "at the end", p.State(), files, slots, fault)
	}
	for _, kind := range []int{0, 2, 3, 5, 6} {
		if done[kind] < 500 {
			t.Errorf("call %d was done %d times: too few to say something", kind, done[kind])
		}
	}
}

// holdRows: each file in at most one row; each row a file's, or queued once, or out; enough are queued if it is settled.
func holdRows(t *testing.T, p *Pool, files, slots int) {
	t.Helper()
	s := p.State()
	held, owners := 0, map[int]int{}
	for i, o := range s.Objects {
		queued := 0
		for _, j := range s.Queue {
			if j == i {
				queued++
			}
		}
		if o.Owner != -1 {
			held++
			owners[o.Owner]++
		}
		if queued > 1 || queued == 1 && o.Owner != -1 || owners[o.Owner] > 1 {
			t.Fatalf("row %d: %v", i, s)
		}
	}
	if q, e := Load(s, files, slots); e == api.OK && (len(s.Queue) != q.Count()-held || len(s.Queue) < slots) {
		t.Fatalf("%d are queued: %v", len(s.Queue), s)
	}
}

// As a vault uses it: dummies go out, some become a file's, the others come back behind all that waited.
func TestFirstInFirstOutForLong(t *testing.T) {
	p, plain := mustNew(t, 65536, 64), newPlain(65536, 64)
	queue := plain.queue
	for range 3000 {
		var out []int
		for range 64 {
			i, e := p.Pop()
			wantRow(t, "Pop", i, e, queue[0], api.OK)
			out, queue = append(out, i), queue[1:]
		}
		slices.Reverse(out)
		for _, i := range out {
			wantCode(t, "Push", p.Push(i), api.OK)
		}
		queue = append(queue, out...)
	}
	wantQueue(t, p, queue...)
}

func TestAllFilesAreHeld(t *testing.T) {
	p := mustNew(t, 65536, 64)
	for file := range 65536 {
		i, _ := p.Pop()
		wantCode(t, "Assign", p.Assign(i, 65535-file), api.OK)
		wantCode(t, "Set", p.Set(i, fmt.Sprintf("%016d", file), told("t"), file), api.OK)
	}
	wantAt(t, p, 65535, object("0000000000065535", told("t"), 65535, 0), api.OK)
	wantOwner(t, p, 65535, 0, api.OK)
	wantName(t, p, "0000000000000777", 777, api.OK)
	q := p.State().Queue
	if len(q) != 64 || q[0] != 65536 || q[63] != 65599 {
		t.Errorf("the queue: %v", q)
	}
	wantLoad(t, "full", p.State(), 65536, 64, api.OK)
	wantState(t, p.Copy(), p.State())
}

// The document's examples, one behind the other.
func TestExamples(t *testing.T) {
	p := mustNew(t, 2, 3)
	wantPop(t, p, 0, api.OK)
	wantPop(t, p, 1, api.OK)
	wantCode(t, "Assign(0, 1)", p.Assign(0, 1), api.OK)
	wantCode(t, "Assign(1, 1)", p.Assign(1, 1), api.ErrOwner)
	wantCode(t, "Assign(2, 0)", p.Assign(2, 0), api.ErrOwner)
	wantCode(t, "Assign(1, 2)", p.Assign(1, 2), api.ErrArg)
	wantCode(t, "Assign(1, -1)", p.Assign(1, -1), api.ErrArg)
	wantOwner(t, p, 1, 0, api.OK)
	wantOwner(t, p, 0, 0, api.ErrOwner)
	wantOwner(t, p, 2, 0, api.ErrArg)

	wantCode(t, "Push(1)", p.Push(1), api.OK)
	wantCode(t, "Push(1)", p.Push(1), api.ErrOwner)
	wantCode(t, "Push(0)", p.Push(0), api.ErrOwner)
	wantQueue(t, p, 2, 3, 4, 1)
	wantLoad(t, "example 3", p.State(), 2, 3, api.OK)

	wantCode(t, "Release(0)", p.Release(0), api.OK)
	wantLoad(t, "example 4", p.State(), 2, 3, api.ErrPool)
	wantCode(t, "Push(0)", p.Push(0), api.OK)
	wantQueue(t, p, 2, 3, 4, 1, 0)
	wantCode(t, "Release(0)", p.Release(0), api.ErrOwner)

	n, m, tag := told("n"), told("m"), told("t")
	wantCode(t, "Set(0, n)", p.Set(0, n, tag, 64), api.OK)
	wantCode(t, "Set(1, n)", p.Set(1, n, tag, 64), api.ErrArg)
	wantCode(t, "Set(0, n)", p.Set(0, n, tag, 70), api.OK)
	wantCode(t, "Set(1)", p.Set(1, "", "", 0), api.OK)
	wantCode(t, "Set(1, short)", p.Set(1, "short", tag, 0), api.ErrArg)
	wantCode(t, "Set(1, -1)", p.Set(1, m, tag, -1), api.ErrArg)
	wantCode(t, "Set(1, 1048577)", p.Set(1, m, tag, 1048577), api.ErrArg)
	wantCode(t, "Set(9, short)", p.Set(9, "short", tag, 0), api.ErrObject)
	wantName(t, p, n, 0, api.OK)
	wantName(t, p, "", 0, api.ErrObject)
	wantName(t, p, m, 0, api.ErrObject)

	p = mustNew(t, 2, 3)
	for i := range 5 {
		wantPop(t, p, i, api.OK)
	}
	wantPop(t, p, 0, api.ErrObject)
	wantCode(t, "Push(3)", p.Push(3), api.OK)
	wantCode(t, "Push(1)", p.Push(1), api.OK)
	wantPop(t, p, 3, api.OK)
}
