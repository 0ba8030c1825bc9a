package plan

import (
	"fmt"
	"math"
	"math/rand"
	"reflect"
	"slices"
	"strings"
	"sync"
	"testing"

	"casket/api"
	"casket/frame"
	"casket/pool"
	"casket/tree"
)

// small is the configuration of the chapter's examples.
func small() api.Config {
	return api.Config{Slots: 3, Files: 2, Dirs: 2, MaxFile: 100, Least: 16, Page: 64}
}

// greatest has room for as much as may be.
func greatest() api.Config {
	return api.Config{Slots: 64, Files: 65536, Dirs: 4096, MaxFile: 65536, Least: 65536, Page: 65536}
}

// desk is a tree and a table that batches are done to.
type desk struct {
	c api.Config
	t *tree.Tree
	p *pool.Pool
}

func mustTree(t *testing.T, files, dirs, most int, ops ...api.Op) *tree.Tree {
	t.Helper()
	x, e := tree.New(files, dirs, most)
	if e != api.OK {
		t.Fatalf("tree.New(%d, %d, %d): %d", files, dirs, most, e)
	}
	for _, op := range ops {
		if r, _ := x.Do(op); r.Code != api.OK {
			t.Fatalf("Do(%+v): %d", op, r.Code)
		}
	}
	return x
}

// mustPool is a table whose first rows hold these files; all else is queued.
func mustPool(t *testing.T, files, slots int, held ...int) *pool.Pool {
	t.Helper()
	p, e := pool.New(files, slots)
	if e != api.OK {
		t.Fatalf("pool.New(%d, %d): %d", files, slots, e)
	}
	for _, file := range held {
		i, e := p.Pop()
		if e != api.OK || p.Assign(i, file) != api.OK {
			t.Fatalf("the row %d cannot hold the file %d", i, file)
		}
	}
	return p
}

func newDesk(t *testing.T, c api.Config) *desk {
	t.Helper()
	return &desk{c: c, t: mustTree(t, c.Files, c.Dirs, c.MaxFile), p: mustPool(t, c.Files, c.Slots)}
}

// do is a batch that is taken: the desk is that behind it.
func (d *desk) do(t *testing.T, ops ...api.Op) api.Plan {
	t.Helper()
	m, x, p, e := Make(d.c, d.t, d.p, ops)
	if e != api.OK || x == nil || p == nil {
		t.Fatalf("Make(%+v): %d", ops, e)
	}
	d.t, d.p = x, p
	return m
}

// row is a slot as the examples tell it: Object, Was, File, Bucket.
type row [4]int

func (d *desk) want(t *testing.T, ops []api.Op, rows []row, queue ...int) api.Plan {
	t.Helper()
	m := d.do(t, ops...)
	wantSlots(t, m, rows...)
	if q := d.p.State().Queue; !slices.Equal(q, queue) {
		t.Errorf("the queue: %v, want %v", q, queue)
	}
	return m
}

func wantSlots(t *testing.T, m api.Plan, rows ...row) {
	t.Helper()
	var is []row
	for _, s := range m.Slots {
		is = append(is, row{s.Object, s.Was, s.File, s.Bucket})
	}
	if !slices.Equal(is, rows) {
		t.Errorf("the slots: %v, want %v", is, rows)
	}
}

func wantFault(t *testing.T, what string, c api.Config, x *tree.Tree, p *pool.Pool, ops []api.Op, fault api.Errno) {
	t.Helper()
	m, y, q, e := Make(c, x, p, ops)
	if e != fault || (y == nil) != (fault != api.OK) || (q == nil) != (fault != api.OK) {
		t.Errorf("%s: Make: %v, %v, %d, want %d", what, y, q, e, fault)
	}
	if fault != api.OK && !reflect.DeepEqual(m, api.Plan{}) {
		t.Errorf("%s: Make: %+v beside an error", what, m)
	}
}

func mkdir(path string) api.Op  { return api.Op{Kind: api.OpMkdir, Path: path} }
func create(path string) api.Op { return api.Op{Kind: api.OpCreate, Path: path} }
func remove(path string) api.Op { return api.Op{Kind: api.OpRemove, Path: path} }
func stat(path string) api.Op   { return api.Op{Kind: api.OpStat, Path: path} }
func list(path string) api.Op   { return api.Op{Kind: api.OpList, Path: path} }

func read(path string, n int) api.Op { return api.Op{Kind: api.OpRead, Path: path, N: n} }
func cut(path string, n int) api.Op  { return api.Op{Kind: api.OpCut, Path: path, N: n} }

func write(path string, n int) api.Op {
	return api.Op{Kind: api.OpWrite, Path: path, Data: strings.Repeat("x", n)}
}

func rename(path, to string) api.Op { return api.Op{Kind: api.OpRename, Path: path, To: to} }

func sameTree(a, b api.TreeState) bool {
	return a.Files == b.Files && a.Dirs == b.Dirs && slices.Equal(a.Nodes, b.Nodes)
}

func samePool(a, b api.PoolState) bool {
	return slices.Equal(a.Objects, b.Objects) && slices.Equal(a.Queue, b.Queue)
}

func sameStep(a, b api.Step) bool {
	x, y := a.Result, b.Result
	return a.Effect == b.Effect && x.Code == y.Code && x.Data == y.Data && x.N == y.N && x.Kind == y.Kind && x.Size == y.Size && slices.Equal(x.Names, y.Names)
}

func samePlan(a, b api.Plan) bool {
	return slices.Equal(a.Slots, b.Slots) && slices.EqualFunc(a.Steps, b.Steps, sameStep)
}

// What follows does the document's words once more, by lists that are gone through, against which the program is held. The
// tree's own calls are taken for what they say.

// plainPadme counts powers of two up, where the program counts digits.
func plainPadme(n int) int {
	e := 0
	for 1<<(e+1) <= n {
		e++
	}
	s := 1
	for 1<<s <= e {
		s++
	}
	for n%(1<<max(e-s, 0)) != 0 {
		n++
	}
	return n
}

func plainBucket(c api.Config, size int) int { return plainPadme(max(size+5, c.Least)) }

func plainSize(x api.TreeState, file int) int {
	for _, n := range x.Nodes {
		if n.Kind == api.IsFile && n.Number == file {
			return n.Size
		}
	}
	return 0
}

func plainHolder(p api.PoolState, file int) int {
	return slices.IndexFunc(p.Objects, func(o api.Object) bool { return o.Owner == file })
}

func plainMake(c api.Config, x *tree.Tree, p api.PoolState, ops []api.Op) (api.Plan, api.TreeState, api.PoolState) {
	var m api.Plan
	x = x.Copy()
	for _, op := range ops {
		r, e := x.Do(op)
		m.Steps = append(m.Steps, api.Step{Result: r, Effect: e})
	}
	var touched []int
	now := api.PoolState{Objects: slices.Clone(p.Objects), Queue: slices.Clone(p.Queue)}
	take := func() int {
		i := now.Queue[0]
		now.Queue = now.Queue[1:]
		return i
	}
	for i := 0; i < c.Slots; i++ {
		object := -1
		if i < len(m.Steps) {
			e := m.Steps[i].Effect
			if e.Kind == api.EffMade {
				object = take()
				now.Objects[object].Owner = e.File
			}
			if e.Kind == api.EffRead || e.Kind == api.EffWrite || e.Kind == api.EffCut {
				object = plainHolder(now, e.File)
			}
			if e.Kind == api.EffGone {
				object = plainHolder(now, e.File)
				now.Objects[object].Owner = -1
			}
			if e.Kind == api.EffOver {
				object = plainHolder(now, e.Gone)
				now.Objects[object].Owner = -1
			}
		}
		if object == -1 || slices.Contains(touched, object) {
			object = take()
		}
		touched = append(touched, object)
	}
	for _, i := range touched {
		if now.Objects[i].Owner == -1 {
			now.Queue = append(now.Queue, i)
		}
		s := api.Slot{Object: i, Was: p.Objects[i].Owner, File: now.Objects[i].Owner, Bucket: plainBucket(c, 0)}
		if s.File != -1 {
			s.Bucket = plainBucket(c, plainSize(x.State(), s.File))
		}
		m.Slots = append(m.Slots, s)
	}
	return m, x.State(), now
}

func plainFits(c api.Config, x api.TreeState, p api.PoolState) bool {
	fits := x.Files == c.Files && x.Dirs == c.Dirs && len(p.Objects) == c.Files+c.Slots
	for _, n := range x.Nodes {
		fits = fits && (n.Kind == api.IsDir || n.Size <= c.MaxFile && plainHolder(p, n.Number) >= 0)
	}
	for i, o := range p.Objects {
		isFile := slices.ContainsFunc(x.Nodes, func(n api.Node) bool { return n.Kind == api.IsFile && n.Number == o.Owner })
		fits = fits && (o.Owner == -1) == slices.Contains(p.Queue, i) && (o.Owner == -1 || isFile)
	}
	return fits
}

// class is P15.6's: what of an operation the rows hang on.
type class struct {
	kind string
	file int
}

func classOf(e api.Effect) class {
	switch e.Kind {
	case api.EffMade:
		return class{"made", -1}
	case api.EffRead, api.EffWrite, api.EffCut:
		return class{"used", e.File}
	case api.EffGone:
		return class{"gone", e.File}
	case api.EffOver:
		return class{"gone", e.Gone}
	}
	return class{"nothing", -1}
}

// Some of everything.

func someConfig(r *rand.Rand) api.Config {
	return api.Config{Slots: 1 + r.Intn(6), Files: 1 + r.Intn(6), Dirs: r.Intn(4), MaxFile: r.Intn(300), Least: 16 + r.Intn(60), Page: 64 + r.Intn(300)}
}

func somePath(r *rand.Rand) string {
	names := []string{"/a", "/b", "/c", "/d"}
	path := names[r.Intn(len(names))]
	if r.Intn(6) == 0 {
		path += names[r.Intn(2)]
	}
	if r.Intn(50) == 0 {
		return []string{"", "/", "a", "/a//b", "/.."}[r.Intn(5)]
	}
	return path
}

func someOp(r *rand.Rand, most int) api.Op {
	kinds := []int{api.OpCreate, api.OpCreate, api.OpCreate, api.OpWrite, api.OpCut, api.OpRead, api.OpRename, api.OpRemove, 1 + r.Intn(10), r.Intn(14) - 1}
	op := api.Op{Kind: kinds[r.Intn(len(kinds))], Path: somePath(r), To: somePath(r), At: r.Intn(most + 2), N: r.Intn(most + 2)}
	op.Data = strings.Repeat("y", r.Intn(most+2))
	if r.Intn(3) > 0 {
		op.At = 0
	}
	return op
}

func someOps(r *rand.Rand, c api.Config) []api.Op {
	var ops []api.Op
	for range r.Intn(c.Slots + 1) {
		ops = append(ops, someOp(r, c.MaxFile))
	}
	return ops
}

// setSome gives the rows names, tags and buckets, which no batch is to change.
func setSome(t *testing.T, r *rand.Rand, p *pool.Pool) {
	t.Helper()
	for i := range p.Count() {
		if e := p.Set(i, fmt.Sprintf("name %11d", i), fmt.Sprintf("tag %12d", r.Intn(1000)), r.Intn(1000)); e != api.OK {
			t.Fatalf("Set: %d", e)
		}
	}
}

// P15.1

func TestRefusedInOrder(t *testing.T) {
	c, none := small(), api.Config{}
	x, p, other := mustTree(t, 2, 2, 100), mustPool(t, 2, 3), mustPool(t, 3, 3)
	four := make([]api.Op, 4)
	wantFault(t, "no tree, and all else", none, nil, other, four, api.ErrNil)
	wantFault(t, "no table, and all else", none, x, nil, four, api.ErrNil)
	wantFault(t, "neither", c, nil, nil, nil, api.ErrNil)
	wantFault(t, "no tree", c, nil, p, nil, api.ErrNil)
	wantFault(t, "no table", c, x, nil, nil, api.ErrNil)
	wantFault(t, "no configuration, and all else", none, x, other, four, api.ErrConfig)
	wantFault(t, "no configuration", none, x, p, nil, api.ErrConfig)
	wantFault(t, "no fit, and four operations", c, x, other, four, api.ErrPool)
	wantFault(t, "no fit", c, x, other, nil, api.ErrPool)
	wantFault(t, "four operations", c, x, p, four, api.ErrBatch)
	wantFault(t, "three operations", c, x, p, four[:3], api.OK)
	wantFault(t, "no operations", c, x, p, nil, api.OK)
	wantFault(t, "an empty list", c, x, p, []api.Op{}, api.OK)
}

func TestConfigurationsThatMayNotBe(t *testing.T) {
	x, p := mustTree(t, 2, 2, 100), mustPool(t, 2, 3)
	for _, f := range []struct {
		name      string
		of        func(c *api.Config) *int
		low, high int
	}{
		{"Slots", func(c *api.Config) *int { return &c.Slots }, 0, 65},
		{"Files", func(c *api.Config) *int { return &c.Files }, 0, 65537},
		{"Dirs", func(c *api.Config) *int { return &c.Dirs }, -1, 4097},
		{"MaxFile", func(c *api.Config) *int { return &c.MaxFile }, -1, 65537},
		{"Least", func(c *api.Config) *int { return &c.Least }, 15, 65537},
		{"Page", func(c *api.Config) *int { return &c.Page }, 63, 65537},
	} {
		for _, n := range []int{f.low, f.high, math.MinInt, math.MaxInt} {
			c := small()
			*f.of(&c) = n
			wantFault(t, fmt.Sprintf("%s %d", f.name, n), c, x, p, nil, api.ErrConfig)
		}
	}
	many := api.Config{Slots: 1, Files: 65536, Page: 64, Least: 16}
	wantFault(t, "too many pages", many, x, p, nil, api.ErrConfig)
}

func TestWhatDoesNotFit(t *testing.T) {
	c := small()
	out := mustPool(t, 2, 3)
	out.Pop()
	released := mustPool(t, 2, 3, 0)
	released.Release(0)
	both := []api.Op{create("/a"), create("/b")}
	for _, f := range []struct {
		what  string
		tree  *tree.Tree
		table *pool.Pool
		fault api.Errno
	}{
		{"both new", mustTree(t, 2, 2, 100), mustPool(t, 2, 3), api.OK},
		{"room for one file more", mustTree(t, 3, 2, 100), mustPool(t, 2, 3), api.ErrPool},
		{"room for one file less", mustTree(t, 1, 2, 100), mustPool(t, 2, 3), api.ErrPool},
		{"room for one directory more", mustTree(t, 2, 3, 100), mustPool(t, 2, 3), api.ErrPool},
		{"room for one directory less", mustTree(t, 2, 1, 100), mustPool(t, 2, 3), api.ErrPool},
		{"six rows", mustTree(t, 2, 2, 100), mustPool(t, 3, 3), api.ErrPool},
		{"four rows", mustTree(t, 2, 2, 100), mustPool(t, 2, 2), api.ErrPool},
		{"five rows for others", mustTree(t, 2, 2, 100), mustPool(t, 4, 1), api.OK},
		{"a dummy that is out", mustTree(t, 2, 2, 100), out, api.ErrPool},
		{"a dummy that was released", mustTree(t, 2, 2, 100), released, api.ErrPool},
		{"a file in no row", mustTree(t, 2, 2, 100, create("/a")), mustPool(t, 2, 3), api.ErrPool},
		{"a row without its file", mustTree(t, 2, 2, 100), mustPool(t, 2, 3, 0), api.ErrPool},
		{"another file's row", mustTree(t, 2, 2, 100, create("/a")), mustPool(t, 2, 3, 1), api.ErrPool},
		{"a file's row", mustTree(t, 2, 2, 100, create("/a")), mustPool(t, 2, 3, 0), api.OK},
		{"two files, one row", mustTree(t, 2, 2, 100, both...), mustPool(t, 2, 3, 1), api.ErrPool},
		{"one file, two rows", mustTree(t, 2, 2, 100, create("/a")), mustPool(t, 2, 3, 1, 0), api.ErrPool},
		{"two files, two rows", mustTree(t, 2, 2, 100, both...), mustPool(t, 2, 3, 1, 0), api.OK},
		{"a row of a file that may not be", mustTree(t, 2, 2, 100), mustPool(t, 4, 1, 2), api.ErrPool},
		{"directories of the files' numbers", mustTree(t, 2, 2, 100, mkdir("/d"), mkdir("/e")), mustPool(t, 2, 3), api.OK},
		{"a directory, and a row with its number", mustTree(t, 2, 2, 100, mkdir("/d")), mustPool(t, 2, 3, 1), api.ErrPool},
		{"a file of 100 bytes", mustTree(t, 2, 2, 200, create("/a"), write("/a", 100)), mustPool(t, 2, 3, 0), api.OK},
		{"a file of 101 bytes", mustTree(t, 2, 2, 200, create("/a"), write("/a", 101)), mustPool(t, 2, 3, 0), api.ErrPool},
		{"a tree whose files are shorter", mustTree(t, 2, 2, 1, create("/a")), mustPool(t, 2, 3, 0), api.OK},
	} {
		wantFault(t, f.what, c, f.tree, f.table, []api.Op{stat("/")}, f.fault)
	}
}

// spoil changes one thing of what may fit; it may fit behind it, too.
func spoil(r *rand.Rand, x *tree.Tree, p *pool.Pool, c *api.Config) {
	switch r.Intn(10) {
	case 0:
		x.Do(someOp(r, 300))
	case 1:
		p.Pop()
	case 2:
		if i, e := p.Pop(); e == api.OK && p.Assign(i, r.Intn(7)) != api.OK {
			p.Push(i)
		}
	case 3:
		i := r.Intn(p.Count())
		if p.Release(i) == api.OK && r.Intn(2) == 0 {
			p.Push(i)
		}
	case 4:
		c.Files++
		c.Slots -= r.Intn(2)
	case 5:
		c.Files--
		c.Slots += r.Intn(2)
	case 6:
		c.Dirs += r.Intn(3) - 1
	case 7:
		c.MaxFile = r.Intn(c.MaxFile + 1)
	}
}

func TestFitsAtRandom(t *testing.T) {
	r := rand.New(rand.NewSource(151))
	counts := map[api.Errno]int{}
	for range 3000 {
		c := someConfig(r)
		d := newDesk(t, c)
		for range r.Intn(4) {
			d.do(t, someOps(r, c)...)
		}
		spoil(r, d.t, d.p, &c)
		fault := api.OK
		if c.Slots < 1 || c.Files < 1 || c.Dirs < 0 {
			fault = api.ErrConfig
		} else if !plainFits(c, d.t.State(), d.p.State()) {
			fault = api.ErrPool
		}
		counts[fault]++
		wantFault(t, fmt.Sprintf("%+v", c), c, d.t, d.p, nil, fault)
	}
	if counts[api.OK] < 500 || counts[api.ErrPool] < 500 || counts[api.ErrConfig] < 50 {
		t.Errorf("%v: too few to say something", counts)
	}
}

// roomy is a list with spare room, in which operations lie that must stay.
func roomy(ops ...api.Op) []api.Op {
	all := append(slices.Clone(ops), mkdir("/behind"), write("/behind", 3))
	return all[:len(ops)]
}

func TestWhatIsHandedInStays(t *testing.T) {
	x, p := mustTree(t, 2, 2, 100, create("/a"), write("/a", 7)), mustPool(t, 2, 3, 0)
	wasTree, wasPool := x.State(), p.State()
	for _, ops := range [][]api.Op{
		roomy(remove("/a")), roomy(create("/b"), mkdir("/d"), rename("/b", "/a")), roomy(cut("/a", 50)), roomy(),
		roomy(stat("/"), stat("/"), stat("/"), stat("/")),
	} {
		was := slices.Clone(ops[:cap(ops)])
		Make(small(), x, p, ops)
		if !slices.Equal(ops[:cap(ops)], was) {
			t.Errorf("the operations are %+v, were %+v", ops[:cap(ops)], was)
		}
		if !sameTree(x.State(), wasTree) || !samePool(p.State(), wasPool) {
			t.Errorf("the tree or the table changed by %+v", ops)
		}
	}
}

// P15.2

func TestSteps(t *testing.T) {
	d := newDesk(t, api.Config{Slots: 11, Files: 3, Dirs: 2, MaxFile: 100, Least: 16, Page: 64})
	m := d.do(t, mkdir("/d"), create("/d/a"), write("/d/a", 20), read("/d/a", 50), cut("/d/a", 5), stat("/d/a"),
		create("/b"), rename("/d/a", "/b"), list("/"), remove("/b"), api.Op{Kind: 11})
	none := api.Effect{File: -1, Gone: -1}
	want := []api.Step{
		{Effect: none},
		{Effect: api.Effect{Kind: api.EffMade, File: 0, Gone: -1}},
		{Result: api.Result{N: 20}, Effect: api.Effect{Kind: api.EffWrite, File: 0, Gone: -1, Data: strings.Repeat("x", 20), Size: 20}},
		{Result: api.Result{N: 20}, Effect: api.Effect{Kind: api.EffRead, File: 0, Gone: -1, N: 20, Size: 20}},
		{Effect: api.Effect{Kind: api.EffCut, File: 0, Gone: -1, N: 5, Size: 5}},
		{Result: api.Result{Kind: api.IsFile, Size: 5}, Effect: none},
		{Effect: api.Effect{Kind: api.EffMade, File: 1, Gone: -1}},
		{Effect: api.Effect{Kind: api.EffOver, File: 0, Gone: 1, Size: 5}},
		{Result: api.Result{Names: []string{"b", "d"}}, Effect: none},
		{Effect: api.Effect{Kind: api.EffGone, File: 0, Gone: -1}},
		{Result: api.Result{Code: api.ErrOp}, Effect: none},
	}
	if !slices.EqualFunc(m.Steps, want, sameStep) {
		t.Errorf("the steps: %+v, want %+v", m.Steps, want)
	}
	if s := d.t.State(); !sameTree(s, api.TreeState{Files: 3, Dirs: 2, Nodes: []api.Node{{Kind: api.IsDir, Number: 1, Name: "d"}}}) {
		t.Errorf("the tree behind it: %+v", s)
	}
	if m := d.do(t); len(m.Steps) != 0 || len(m.Slots) != 11 {
		t.Errorf("without operations: %+v", m)
	}
}

// The working tree is one of the configuration's most, whatever the other was made with; so is the one that is answered.
func TestTheWorkingTreeIsTheConfigurations(t *testing.T) {
	for _, most := range []int{0, 99, 100, 101, 65536} {
		d := &desk{c: small(), t: mustTree(t, 2, 2, most, create("/a")), p: mustPool(t, 2, 3, 0)}
		for range 2 {
			m := d.do(t, write("/a", 101), write("/a", 100), cut("/a", 101))
			if m.Steps[0].Result.Code != api.ErrBig || m.Steps[1].Result.Code != api.OK || m.Steps[2].Result.Code != api.ErrBig {
				t.Errorf("a tree made for %d bytes: %+v", most, m.Steps)
			}
			wantSize(t, d.t, 100)
			if r, _ := d.t.Do(write("/a", 101)); r.Code != api.ErrBig {
				t.Errorf("the tree behind it, made for %d bytes: %+v", most, r)
			}
		}
	}
}

func wantSize(t *testing.T, x *tree.Tree, size int) {
	t.Helper()
	if r, _ := x.Do(stat("/a")); r.Size != size {
		t.Errorf("the size: %d, want %d", r.Size, size)
	}
}

// The working table is one of the configuration's files: of two, though the other was made for four.
func TestTheWorkingTableIsTheConfigurations(t *testing.T) {
	d := &desk{c: small(), t: mustTree(t, 2, 2, 100), p: mustPool(t, 4, 1)}
	d.do(t, create("/a"), create("/b"), create("/c"))
	if _, e := d.p.ByOwner(2); e != api.ErrArg {
		t.Errorf("ByOwner(2): %d", e)
	}
	d = &desk{c: small(), t: mustTree(t, 2, 2, 100), p: mustPool(t, 1, 4)}
	wantSlots(t, d.do(t, create("/a"), create("/b")), row{0, -1, 0, 16}, row{1, -1, 1, 16}, row{2, -1, -1, 16})
}

// P15.3, P15.4: the examples

func TestTheExamples(t *testing.T) {
	d := newDesk(t, small())
	d.want(t, nil, []row{{0, -1, -1, 16}, {1, -1, -1, 16}, {2, -1, -1, 16}}, 3, 4, 0, 1, 2)
	d.want(t, []api.Op{create("/a")}, []row{{3, -1, 0, 16}, {4, -1, -1, 16}, {0, -1, -1, 16}}, 1, 2, 4, 0)
	d.want(t, []api.Op{write("/a", 20), read("/a", 9), stat("/a")}, []row{{3, 0, 0, 26}, {1, -1, -1, 16}, {2, -1, -1, 16}}, 4, 0, 1, 2)
	d.want(t, []api.Op{create("/b"), write("/b", 30), remove("/b")}, []row{{4, -1, -1, 16}, {0, -1, -1, 16}, {1, -1, -1, 16}}, 2, 4, 0, 1)
	d.want(t, []api.Op{create("/b"), rename("/b", "/a")}, []row{{2, -1, 1, 16}, {3, 0, -1, 16}, {4, -1, -1, 16}}, 0, 1, 3, 4)
	d.want(t, []api.Op{remove("/a"), create("/c")}, []row{{2, 1, -1, 16}, {0, -1, 0, 16}, {1, -1, -1, 16}}, 3, 4, 2, 1)
	d.want(t, []api.Op{mkdir("/d"), stat("/none")}, []row{{3, -1, -1, 16}, {4, -1, -1, 16}, {2, -1, -1, 16}}, 1, 3, 4, 2)
	d.want(t, []api.Op{write("/c", 20), cut("/c", 3)}, []row{{0, 0, 0, 16}, {1, -1, -1, 16}, {3, -1, -1, 16}}, 4, 2, 1, 3)
	d.want(t, []api.Op{create("/e")}, []row{{4, -1, 1, 16}, {2, -1, -1, 16}, {1, -1, -1, 16}}, 3, 2, 1)
	d.want(t, []api.Op{rename("/c", "/x"), rename("/e", "/c"), rename("/x", "/e")}, []row{{3, -1, -1, 16}, {2, -1, -1, 16}, {1, -1, -1, 16}}, 3, 2, 1)
}

// used is a desk with the files 0 and 1, /a and /b, in the rows 0 and 1, and the queue 2 3 4 5.
func used(t *testing.T) *desk {
	c := api.Config{Slots: 4, Files: 2, Dirs: 1, MaxFile: 100, Least: 16, Page: 64}
	return &desk{c: c, t: mustTree(t, 2, 1, 100, create("/a"), write("/a", 20), create("/b")), p: mustPool(t, 2, 4, 0, 1)}
}

func TestSlotByEffect(t *testing.T) {
	for _, f := range []struct {
		what  string
		ops   []api.Op
		rows  []row
		queue []int
	}{
		{"nothing", nil,
			[]row{{2, -1, -1, 16}, {3, -1, -1, 16}, {4, -1, -1, 16}, {5, -1, -1, 16}}, []int{2, 3, 4, 5}},
		{"read", []api.Op{read("/a", 1)},
			[]row{{0, 0, 0, 26}, {2, -1, -1, 16}, {3, -1, -1, 16}, {4, -1, -1, 16}}, []int{5, 2, 3, 4}},
		{"read of nothing", []api.Op{read("/b", 0)},
			[]row{{1, 1, 1, 16}, {2, -1, -1, 16}, {3, -1, -1, 16}, {4, -1, -1, 16}}, []int{5, 2, 3, 4}},
		{"write of nothing", []api.Op{write("/b", 0)},
			[]row{{1, 1, 1, 16}, {2, -1, -1, 16}, {3, -1, -1, 16}, {4, -1, -1, 16}}, []int{5, 2, 3, 4}},
		{"cut to its size", []api.Op{cut("/a", 20)},
			[]row{{0, 0, 0, 26}, {2, -1, -1, 16}, {3, -1, -1, 16}, {4, -1, -1, 16}}, []int{5, 2, 3, 4}},
		{"both, twice", []api.Op{write("/b", 30), cut("/a", 0), read("/b", 1), write("/a", 50)},
			[]row{{1, 1, 1, 36}, {0, 0, 0, 56}, {2, -1, -1, 16}, {3, -1, -1, 16}}, []int{4, 5, 2, 3}},
		{"the first slots have none", []api.Op{stat("/a"), list("/"), write("/a", 100)},
			[]row{{2, -1, -1, 16}, {3, -1, -1, 16}, {0, 0, 0, 112}, {4, -1, -1, 16}}, []int{5, 2, 3, 4}},
		{"refused", []api.Op{write("/none", 1), create("/a"), cut("/a", 101), create("/c")},
			[]row{{2, -1, -1, 16}, {3, -1, -1, 16}, {4, -1, -1, 16}, {5, -1, -1, 16}}, []int{2, 3, 4, 5}},
		{"a rename over nothing, and the file read", []api.Op{rename("/a", "/c"), read("/c", 1)},
			[]row{{2, -1, -1, 16}, {0, 0, 0, 26}, {3, -1, -1, 16}, {4, -1, -1, 16}}, []int{5, 2, 3, 4}},
		{"a rename to itself", []api.Op{rename("/a", "/a")},
			[]row{{2, -1, -1, 16}, {3, -1, -1, 16}, {4, -1, -1, 16}, {5, -1, -1, 16}}, []int{2, 3, 4, 5}},
		{"gone", []api.Op{remove("/a")},
			[]row{{0, 0, -1, 16}, {2, -1, -1, 16}, {3, -1, -1, 16}, {4, -1, -1, 16}}, []int{5, 0, 2, 3, 4}},
		{"used, then gone", []api.Op{write("/a", 50), remove("/a")},
			[]row{{0, 0, -1, 16}, {2, -1, -1, 16}, {3, -1, -1, 16}, {4, -1, -1, 16}}, []int{5, 0, 2, 3, 4}},
		{"over", []api.Op{rename("/a", "/b")},
			[]row{{1, 1, -1, 16}, {2, -1, -1, 16}, {3, -1, -1, 16}, {4, -1, -1, 16}}, []int{5, 1, 2, 3, 4}},
		{"over, then the one that moved is read and gone", []api.Op{rename("/a", "/b"), read("/b", 1), remove("/b")},
			[]row{{1, 1, -1, 16}, {0, 0, -1, 16}, {2, -1, -1, 16}, {3, -1, -1, 16}}, []int{4, 5, 1, 0, 2, 3}},
		{"used, then renamed over", []api.Op{read("/b", 1), rename("/a", "/b")},
			[]row{{1, 1, -1, 16}, {2, -1, -1, 16}, {3, -1, -1, 16}, {4, -1, -1, 16}}, []int{5, 1, 2, 3, 4}},
		{"gone, and its number given again", []api.Op{remove("/a"), create("/c"), write("/c", 30)},
			[]row{{0, 0, -1, 16}, {2, -1, 0, 36}, {3, -1, -1, 16}, {4, -1, -1, 16}}, []int{5, 0, 3, 4}},
		{"gone and made and gone", []api.Op{remove("/b"), create("/c"), remove("/c"), create("/d")},
			[]row{{1, 1, -1, 16}, {2, -1, -1, 16}, {3, -1, -1, 16}, {4, -1, 1, 16}}, []int{5, 1, 2, 3}},
		{"all gone", []api.Op{remove("/b"), remove("/a")},
			[]row{{1, 1, -1, 16}, {0, 0, -1, 16}, {2, -1, -1, 16}, {3, -1, -1, 16}}, []int{4, 5, 1, 0, 2, 3}},
	} {
		t.Run(f.what, func(t *testing.T) { used(t).want(t, f.ops, f.rows, f.queue...) })
	}
}

// A dummy that is touched has the bucket of size 0, and one that it had in the table does not count.
func TestBuckets(t *testing.T) {
	for _, least := range []int{16, 17, 25, 26, 27, 104, 105, 106, 1000, 65535, 65536} {
		for _, size := range []int{0, 1, 11, 12, 20, 21, 99, 100, 60000, 65535, 65536} {
			c := api.Config{Slots: 2, Files: 1, MaxFile: 65536, Least: least, Page: 64}
			d := newDesk(t, c)
			d.do(t, create("/a"))
			d.p.Set(1, strings.Repeat("n", 16), strings.Repeat("t", 16), 77)
			m := d.do(t, write("/a", size))
			if want := plainBucket(c, size); m.Slots[0].Bucket != want {
				t.Errorf("Least %d, size %d: the bucket %d, want %d", least, size, m.Slots[0].Bucket, want)
			}
			if want, _ := frame.Size(0, least); m.Slots[1].Bucket != want {
				t.Errorf("Least %d: a dummy's bucket %d, want %d", least, m.Slots[1].Bucket, want)
			}
		}
	}
}

func TestNamesTagsAndBucketsStay(t *testing.T) {
	d := used(t)
	setSome(t, rand.New(rand.NewSource(152)), d.p)
	was := d.p.State().Objects
	d.do(t, write("/a", 90), rename("/a", "/b"), create("/c"), remove("/c"))
	for i, o := range d.p.State().Objects {
		o.Owner = was[i].Owner
		if o != was[i] {
			t.Errorf("the row %d: %+v, was %+v", i, o, was[i])
		}
	}
}

// P15.2 to P15.5, at random

func wantMake(t *testing.T, d *desk, ops []api.Op) api.Plan {
	t.Helper()
	wasTree, wasPool := d.t.State(), d.p.State()
	plain, treeBehind, poolBehind := plainMake(d.c, d.t, wasPool, ops)
	m, x, p, e := Make(d.c, d.t, d.p, ops)
	if e != api.OK || !samePlan(m, plain) {
		t.Fatalf("Make(%+v, %+v, %+v): %+v, %d, want %+v", d.c, wasPool, ops, m, e, plain)
	}
	if !sameTree(x.State(), treeBehind) || !samePool(p.State(), poolBehind) {
		t.Fatalf("Make(%+v, %+v, %+v): %+v and %+v behind it, want %+v and %+v", d.c, wasPool, ops, x.State(), p.State(), treeBehind, poolBehind)
	}
	if !sameTree(d.t.State(), wasTree) || !samePool(d.p.State(), wasPool) {
		t.Fatalf("Make(%+v, %+v): what was handed in changed", d.c, ops)
	}
	d.t, d.p = x, p
	return m
}

// wantWhatFollows is P15.5, told of the plan alone.
func wantWhatFollows(t *testing.T, d *desk, ahead api.PoolState, m api.Plan) {
	t.Helper()
	if !plainFits(d.c, d.t.State(), d.p.State()) {
		t.Errorf("the tree and the table that are answered do not fit: %+v, %+v", d.t.State(), d.p.State())
	}
	rows := map[int]bool{}
	for _, s := range m.Slots {
		rows[s.Object] = true
	}
	if len(rows) != d.c.Slots {
		t.Errorf("%d slots touch %d rows", d.c.Slots, len(rows))
	}
	behind := d.p.State()
	for _, s := range m.Steps {
		file := s.Effect.File
		if s.Effect.Kind == api.EffOver {
			file = s.Effect.Gone
		}
		if s.Effect.Kind == api.EffNone {
			continue
		}
		if i := plainHolder(ahead, file); i >= 0 && !rows[i] && s.Effect.Kind != api.EffMade {
			t.Errorf("the row of the file %d ahead of the batch is not touched: %+v", file, m)
		}
		if i := plainHolder(behind, file); i >= 0 && !rows[i] {
			t.Errorf("the row of the file %d behind the batch is not touched: %+v", file, m)
		}
	}
	for i := range ahead.Objects {
		if ahead.Objects[i].Owner != behind.Objects[i].Owner && !rows[i] {
			t.Errorf("the row %d has another file, and is not touched: %+v", i, m)
		}
	}
}

func TestBatchesAtRandom(t *testing.T) {
	r := rand.New(rand.NewSource(153))
	counts := [api.EffOver + 1]int{}
	for range 1000 {
		d := newDesk(t, someConfig(r))
		setSome(t, r, d.p)
		for range 40 {
			ahead := d.p.State()
			m := wantMake(t, d, someOps(r, d.c))
			wantWhatFollows(t, d, ahead, m)
			for _, s := range m.Steps {
				counts[s.Effect.Kind]++
			}
		}
	}
	for kind, count := range counts {
		if count < 500 {
			t.Errorf("the effect %d came %d times: too few to say something", kind, count)
		}
	}
}

// There is a dummy for each slot, though all files are there.
func TestAFullTable(t *testing.T) {
	for _, slots := range []int{1, 2, 64} {
		c := api.Config{Slots: slots, Files: 70, MaxFile: 100, Least: 16, Page: 64}
		d := newDesk(t, c)
		for i := range 70 {
			d.do(t, create(fmt.Sprintf("/%d", i)))
		}
		if q := d.p.State().Queue; len(q) != slots {
			t.Fatalf("%d are queued, of %d slots", len(q), slots)
		}
		var reads, removes, makes []api.Op
		for i := range slots {
			reads = append(reads, read("/7", 1))
			removes = append(removes, remove(fmt.Sprintf("/%d", i)))
			makes = append(makes, create(fmt.Sprintf("/%d", i)))
		}
		for _, ops := range [][]api.Op{nil, reads, makes, removes, makes, reads} {
			ahead := d.p.State()
			wantWhatFollows(t, d, ahead, wantMake(t, d, ops))
		}
	}
}

// P15.6

// twin is a desk whose files have the rows of another and other paths, sizes, names and tags, and whose queue is the same.
func twin(t *testing.T, r *rand.Rand, d *desk) *desk {
	t.Helper()
	s, table := d.t.State(), d.p.State()
	for i := range s.Nodes {
		s.Nodes[i].Name += "t"
		if s.Nodes[i].Kind == api.IsFile {
			s.Nodes[i].Size = r.Intn(d.c.MaxFile + 1)
		}
	}
	for i := range table.Objects {
		table.Objects[i].Name = fmt.Sprintf("twin %11d", i)
		table.Objects[i].Bucket = r.Intn(1000)
	}
	x, e := tree.Load(s, d.c.MaxFile)
	p, f := pool.Load(table, d.c.Files, d.c.Slots)
	if e != api.OK || f != api.OK {
		t.Fatalf("no twin: %d, %d", e, f)
	}
	return &desk{c: d.c, t: x, p: p}
}

// inClass is an operation of that class on the tree as it is now, if one of some is.
func inClass(r *rand.Rand, x *tree.Tree, most int, want class) (api.Op, bool) {
	for range 400 {
		op := someOp(r, most)
		for _, p := range []*string{&op.Path, &op.To} {
			*p = strings.ReplaceAll(*p, "/", "t/")
			*p = strings.TrimPrefix(*p+"t", "t")
		}
		y := x.Copy()
		if _, e := y.Do(op); classOf(e) == want {
			x.Do(op)
			return op, true
		}
	}
	return api.Op{}, false
}

func TestRowsHangOnClassesAlone(t *testing.T) {
	r := rand.New(rand.NewSource(154))
	counts, buckets := map[string]int{}, 0
	for range 4000 {
		d := newDesk(t, someConfig(r))
		for range 4 {
			d.do(t, someOps(r, d.c)...)
		}
		other := twin(t, r, d)
		m := d.do(t, someOps(r, d.c)...)
		var ops []api.Op
		var classes []class
		x := other.t.Copy()
		for _, s := range m.Steps {
			op, ok := inClass(r, x, d.c.MaxFile, classOf(s.Effect))
			if !ok {
				break
			}
			ops = append(ops, op)
			classes = append(classes, classOf(s.Effect))
		}
		if len(ops) < len(m.Steps) {
			continue
		}
		n := other.do(t, ops...)
		for i, s := range m.Slots {
			if n.Slots[i].Object != s.Object || n.Slots[i].Was != s.Was || n.Slots[i].File != s.File {
				t.Fatalf("the classes %v: the slots %v and %v", classes, m.Slots, n.Slots)
			}
			if s.File == -1 || plainBucket(d.c, plainSize(d.t.State(), s.File)) == plainBucket(d.c, plainSize(other.t.State(), s.File)) {
				buckets++
				if s.Bucket != n.Slots[i].Bucket {
					t.Fatalf("the classes %v: the buckets of %v and %v", classes, m.Slots, n.Slots)
				}
			}
		}
		if !slices.Equal(d.p.State().Queue, other.p.State().Queue) {
			t.Fatalf("the classes %v: the queues %v and %v", classes, d.p.State().Queue, other.p.State().Queue)
		}
		for _, c := range classes {
			counts[c.kind]++
		}
	}
	if counts["nothing"] < 200 || counts["made"] < 100 || counts["used"] < 100 || counts["gone"] < 20 || buckets < 500 {
		t.Errorf("%v, %d buckets: too few to say something", counts, buckets)
	}
}

// P15.7

func TestListsAreNewMemory(t *testing.T) {
	d := used(t)
	ops := []api.Op{list("/"), write("/a", 30), create("/c")}
	spoilPlan := func(m api.Plan) {
		for _, s := range m.Slots[:cap(m.Slots)] {
			s.Object = 99
		}
		m.Slots = append(m.Slots[:0], make([]api.Slot, cap(m.Slots))...)
		for i := range m.Steps {
			m.Steps[i].Result.Names = append(m.Steps[i].Result.Names[:0], "spoilt", "spoilt")
		}
		m.Steps = append(m.Steps[:0], make([]api.Step, cap(m.Steps))...)
	}
	for range 3 {
		m, x, p, e := Make(d.c, d.t, d.p, ops)
		wantSlots(t, m, row{2, -1, -1, 16}, row{0, 0, 0, 36}, row{3, -1, -1, 16}, row{4, -1, -1, 16})
		if e != api.OK || !slices.Equal(m.Steps[0].Result.Names, []string{"a", "b"}) {
			t.Errorf("Make: %+v, %d", m, e)
		}
		spoilPlan(m)
		if !slices.Equal(p.State().Queue, []int{5, 2, 3, 4}) {
			t.Errorf("the queue: %v", p.State().Queue)
		}
		if r, _ := x.Do(list("/")); !slices.Equal(r.Names, []string{"a", "b"}) {
			t.Errorf("List: %+v", r)
		}
	}
}

// What is done to what was answered does not show in what was handed in, nor the other way.
func TestNothingIsShared(t *testing.T) {
	d := used(t)
	wasTree, wasPool := d.t.State(), d.p.State()
	_, x, p, _ := Make(d.c, d.t, d.p, nil)
	x.Do(remove("/a"))
	x.Do(mkdir("/d"))
	p.Pop()
	p.Release(0)
	p.Set(3, strings.Repeat("n", 16), "", 5)
	if !sameTree(d.t.State(), wasTree) || !samePool(d.p.State(), wasPool) {
		t.Errorf("what was handed in changed")
	}
	_, x, p, _ = Make(d.c, d.t, d.p, nil)
	behindTree, behindPool := x.State(), p.State()
	d.t.Do(remove("/a"))
	d.p.Pop()
	d.p.Release(1)
	if !sameTree(x.State(), behindTree) || !samePool(p.State(), behindPool) {
		t.Errorf("what was answered changed")
	}
}

// What calls answer that are handed an object which no call made is not said, but they end.
func TestObjectsThatNoCallMade(t *testing.T) {
	x, p := mustTree(t, 2, 2, 100), mustPool(t, 2, 3)
	for _, ops := range [][]api.Op{nil, {stat("/")}, make([]api.Op, 9)} {
		wantFault(t, "a zero tree", small(), &tree.Tree{}, p, ops, api.ErrPool)
		wantFault(t, "a zero table", small(), x, &pool.Pool{}, ops, api.ErrPool)
		wantFault(t, "both zero", small(), &tree.Tree{}, &pool.Pool{}, ops, api.ErrPool)
	}
}

func TestTheGreatest(t *testing.T) {
	c := greatest()
	x := mustTree(t, c.Files, c.Dirs, c.MaxFile)
	p := mustPool(t, c.Files, c.Slots)
	for i := range c.Files {
		x.Do(create(fmt.Sprintf("/%d", i)))
		row, _ := p.Pop()
		p.Assign(row, i)
	}
	d := &desk{c: c, t: x, p: p}
	var ops []api.Op
	for i := range c.Slots {
		ops = append(ops, write(fmt.Sprintf("/%d", c.Files-1-i), 65536))
	}
	m := d.do(t, ops...)
	for i, s := range m.Slots {
		if file := c.Files - 1 - i; s != (api.Slot{Object: file, Was: file, File: file, Bucket: 67584}) {
			t.Errorf("the slot %d: %+v", i, s)
		}
	}
	wantFault(t, "one operation more", c, d.t, d.p, append(ops, ops[0]), api.ErrBatch)
}

func TestTheSameBatchTwice(t *testing.T) {
	r := rand.New(rand.NewSource(155))
	for range 200 {
		d := newDesk(t, someConfig(r))
		d.do(t, someOps(r, d.c)...)
		ops := someOps(r, d.c)
		again := &desk{c: d.c, t: d.t, p: d.p}
		copied := &desk{c: d.c, t: d.t.Copy(), p: d.p.Copy()}
		m := d.do(t, ops...)
		for _, other := range []*desk{again, copied} {
			if n := other.do(t, ops...); !samePlan(m, n) || !sameTree(d.t.State(), other.t.State()) || !samePool(d.p.State(), other.p.State()) {
				t.Fatalf("Make(%+v, %+v) twice: %+v, %+v", d.c, ops, m, n)
			}
		}
	}
}

func TestManyAtOnce(t *testing.T) {
	d := used(t)
	var all sync.WaitGroup
	for range 8 {
		all.Go(func() {
			for range 50 {
				m, _, _, e := Make(d.c, d.t, d.p, []api.Op{create("/c"), remove("/a"), read("/b", 1)})
				want := []api.Slot{{Object: 2, Was: -1, File: -1, Bucket: 16}, {Object: 0, Was: 0, File: -1, Bucket: 16}, {Object: 1, Was: 1, File: 1, Bucket: 16}, {Object: 3, Was: -1, File: -1, Bucket: 16}}
				if e != api.OK || !slices.Equal(m.Slots, want) {
					t.Errorf("Make: %+v, %d", m, e)
				}
			}
		})
	}
	all.Wait()
}
