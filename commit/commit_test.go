package commit

import (
	"fmt"
	"math"
	"math/rand"
	"reflect"
	"slices"
	"strings"
	"sync"
	"testing"

	"casket/api"
	"casket/exec"
	"casket/index"
	"casket/plan"
	"casket/pool"
	"casket/seal"
	"casket/tape"
	"casket/tree"
	"casket/world"
)

// six is the configuration F of the chapter's examples: 2 slots, 5 rows, 2 pages, a root of 96 bytes.
func six() api.Config {
	return api.Config{Slots: 2, Files: 3, Dirs: 2, MaxFile: 100, Least: 16, Page: 256}
}

// least has as little of everything as may be.
func least() api.Config { return api.Config{Slots: 1, Files: 1, Least: 16, Page: 64} }

// someBytes is a text of that many bytes in which no sixteen come twice.
func someBytes(n int) string {
	r, b := rand.New(rand.NewSource(int64(n))), make([]byte, n)
	r.Read(b)
	return string(b)
}

var longTape = someBytes(100000)

var master = strings.Repeat("k", 32)

// rig is a vault and all that it hangs on.
type rig struct {
	c     api.Config
	w     *world.World
	bytes string // of the tape
	t     *tape.Tape
	s     seal.Sealer
	st    api.State
}

func mustTape(t *testing.T, bytes string) *tape.Tape {
	t.Helper()
	x, e := tape.New(bytes)
	if e != api.OK {
		t.Fatalf("tape.New: %d", e)
	}
	return x
}

func mustIdeal(t *testing.T, rows []api.Sealed) *seal.Ideal {
	t.Helper()
	s, e := seal.NewIdeal(rows)
	if e != api.OK {
		t.Fatalf("seal.NewIdeal: %d", e)
	}
	return s
}

func mustReal(t *testing.T, master string) *seal.Real {
	t.Helper()
	s, e := seal.NewReal(master)
	if e != api.OK {
		t.Fatalf("seal.NewReal: %d", e)
	}
	return s
}

func mustAdopt(t *testing.T, blobs []api.Blob, r api.Register) *world.World {
	t.Helper()
	w, e := world.Adopt(blobs, r)
	if e != api.OK {
		t.Fatalf("world.Adopt: %d", e)
	}
	return w
}

func pagesOf(t *testing.T, c api.Config) int {
	t.Helper()
	m, e := index.Pages(c)
	if e != api.OK {
		t.Fatalf("index.Pages: %d", e)
	}
	return m
}

// blank is a rig on which nothing was done yet, over the ideal sealer.
func blank(t *testing.T, c api.Config) *rig {
	t.Helper()
	return &rig{c: c, w: world.New(), bytes: longTape, t: mustTape(t, longTape), s: mustIdeal(t, nil)}
}

// made is a rig with a vault that was formatted and recovered.
func made(t *testing.T, c api.Config) *rig {
	t.Helper()
	r := blank(t, c)
	r.format(t, api.OK)
	r.takeUp(t, api.OK)
	return r
}

func (r *rig) setTape(t *testing.T, bytes string) {
	t.Helper()
	r.bytes, r.t = bytes, mustTape(t, bytes)
}

func (r *rig) format(t *testing.T, want api.Errno) {
	t.Helper()
	if e := Format(r.w, r.t, r.s, r.c); e != want {
		t.Fatalf("Format: %d, want %d", e, want)
	}
}

func (r *rig) takeUp(t *testing.T, want api.Errno) {
	t.Helper()
	st, e := Recover(r.w, r.s, r.c)
	if e != want {
		t.Fatalf("Recover: %d, want %d", e, want)
	}
	if e != api.OK && !reflect.DeepEqual(st, api.State{}) {
		t.Fatalf("Recover: %+v beside the error %d", st, e)
	}
	if e == api.OK {
		r.st = st
	}
}

func (r *rig) batch(t *testing.T, want api.Errno, ops ...api.Op) []api.Result {
	t.Helper()
	st, results, e := Batch(r.w, r.t, r.s, r.c, r.st, ops)
	if e != want {
		t.Fatalf("Batch: %d, want %d", e, want)
	}
	if e != api.OK && (!reflect.DeepEqual(st, api.State{}) || len(results) != 0) {
		t.Fatalf("Batch: %+v, %+v beside the error %d", st, results, e)
	}
	if e == api.OK && len(results) != len(ops) {
		t.Fatalf("Batch: %d results of %d operations", len(results), len(ops))
	}
	if e == api.OK {
		r.st = st
	}
	return results
}

// calls is the store calls from a number on: a letter each, and a star behind those of the root.
func (r *rig) calls(from int) string {
	var b strings.Builder
	for _, c := range r.w.Trace()[from:] {
		b.WriteByte(" GPDL"[c.Kind])
		if c.Name == api.RootName {
			b.WriteByte('*')
		}
	}
	return b.String()
}

func (r *rig) wantCalls(t *testing.T, from int, want string) {
	t.Helper()
	if is := r.calls(from); is != want {
		t.Errorf("the calls are %q, want %q", is, want)
	}
}

// objects is the store's blobs by their names.
func (r *rig) objects() map[string]string {
	blobs := map[string]string{}
	for _, b := range r.w.Dump() {
		blobs[b.Name] = b.Blob
	}
	return blobs
}

// twin is a rig that goes on as this one does, and has nothing in common with it.
func (r *rig) twin(t *testing.T) *rig {
	t.Helper()
	bytes := r.bytes[r.t.Drawn():]
	x := &rig{c: r.c, w: mustAdopt(t, r.w.Dump(), r.w.Kept()), bytes: bytes, t: mustTape(t, bytes), st: copyOf(r.st)}
	switch s := r.s.(type) {
	case *seal.Ideal:
		x.s = mustIdeal(t, s.Table())
	default:
		x.s = mustReal(t, master)
	}
	return x
}

// opened is the body of the object of a name, if all is right with it, and the length of its frame.
func (r *rig) opened(t *testing.T, kind int, name, tag string) (string, int) {
	t.Helper()
	blob, there := r.objects()[name]
	if !there || len(blob) < 16 || blob[len(blob)-16:] != tag {
		t.Fatalf("the object %x is not there, or has another tag", name)
	}
	text, e := r.s.Open(kind, name, blob)
	body, ok := plainUnpack(kind, text)
	if e != api.OK || !ok {
		t.Fatalf("the object %x does not open: %d, %v", name, e, ok)
	}
	return body, len(text)
}

// whole is P17.5's: the store has just what the state says, and that is sealed as the document says. It tells what the vault
// holds: the content of each file by its path, "dir" of each directory.
func (r *rig) whole(t *testing.T) map[string]string {
	t.Helper()
	k := r.w.Kept()
	if k.Pending != "" || k.Stopped || len(r.w.Dump()) != r.c.Files+r.c.Slots+pagesOf(t, r.c)+1 {
		t.Fatalf("%d objects, the register %+v", len(r.w.Dump()), k)
	}
	body, size := r.opened(t, api.KindRoot, api.RootName, k.Current)
	root, e := index.DecodeRoot(r.c, body)
	if e != api.OK || !sameRoot(root, r.st.Root) || size != 5+27+32*len(root.Pages) {
		t.Fatalf("the root has %d bytes, %d: %+v", size, e, root)
	}
	var bodies []string
	for _, p := range root.Pages {
		body, size := r.opened(t, api.KindPage, p.Name, p.Tag)
		if size != r.c.Page {
			t.Fatalf("a page of %d bytes", size)
		}
		bodies = append(bodies, body)
	}
	files, table, e := index.Decode(r.c, bodies)
	if e != api.OK || !sameState(api.State{Tree: files, Pool: table, Root: root}, r.st) {
		t.Fatalf("the pages say %+v, %+v, %d, not %+v", files, table, e, r.st)
	}
	return r.holds(t)
}

// holds is what the vault holds by its state, and whether each row is as it says.
func (r *rig) holds(t *testing.T) map[string]string {
	t.Helper()
	paths, held := pathsOf(r.st.Tree), map[string]string{}
	for _, n := range r.st.Tree.Nodes {
		held[paths[[2]int{n.Kind, n.Number}]] = "dir"
	}
	for _, o := range r.st.Pool.Objects {
		body, size := r.opened(t, api.KindData, o.Name, o.Tag)
		if size != o.Bucket || size != plainBucket(r.c, len(body)) {
			t.Fatalf("a body of %d bytes in a frame of %d, the bucket %d", len(body), size, o.Bucket)
		}
		if o.Owner == -1 && body != "" {
			t.Fatalf("a dummy that holds %q", body)
		}
		if o.Owner != -1 {
			held[paths[[2]int{api.IsFile, o.Owner}]] = "file " + body
		}
	}
	for _, n := range r.st.Tree.Nodes {
		if n.Kind == api.IsFile && len(held[paths[[2]int{n.Kind, n.Number}]]) != len("file ")+n.Size {
			t.Fatalf("the file %+v has %q", n, held[paths[[2]int{n.Kind, n.Number}]])
		}
	}
	return held
}

// pathsOf is the path of each node, by its kind and number.
func pathsOf(s api.TreeState) map[[2]int]string {
	paths := map[[2]int]string{{api.IsDir, 0}: ""}
	for range s.Nodes {
		for _, n := range s.Nodes {
			if above, there := paths[[2]int{api.IsDir, n.Parent}]; there {
				paths[[2]int{n.Kind, n.Number}] = above + "/" + n.Name
			}
		}
	}
	return paths
}

func copyOf(s api.State) api.State {
	s.Tree.Nodes = slices.Clone(s.Tree.Nodes)
	s.Pool.Objects, s.Pool.Queue = slices.Clone(s.Pool.Objects), slices.Clone(s.Pool.Queue)
	s.Root.Pages = slices.Clone(s.Root.Pages)
	return s
}

func sameRoot(a, b api.Root) bool { return a.Config == b.Config && slices.Equal(a.Pages, b.Pages) }

func sameState(a, b api.State) bool {
	return a.Tree.Files == b.Tree.Files && a.Tree.Dirs == b.Tree.Dirs && slices.Equal(a.Tree.Nodes, b.Tree.Nodes) &&
		slices.Equal(a.Pool.Objects, b.Pool.Objects) && slices.Equal(a.Pool.Queue, b.Pool.Queue) && sameRoot(a.Root, b.Root)
}

func sameResults(a, b []api.Result) bool {
	return slices.EqualFunc(a, b, func(x, y api.Result) bool {
		return x.Code == y.Code && x.Data == y.Data && x.N == y.N && x.Kind == y.Kind && x.Size == y.Size && slices.Equal(x.Names, y.Names)
	})
}

func sameCall(a, b api.Call) bool {
	return a.Kind == b.Kind && a.Name == b.Name && a.Blob == b.Blob && a.Code == b.Code && a.Reply == b.Reply && slices.Equal(a.Names, b.Names)
}

func mkdir(path string) api.Op  { return api.Op{Kind: api.OpMkdir, Path: path} }
func create(path string) api.Op { return api.Op{Kind: api.OpCreate, Path: path} }
func remove(path string) api.Op { return api.Op{Kind: api.OpRemove, Path: path} }
func stat(path string) api.Op   { return api.Op{Kind: api.OpStat, Path: path} }
func list(path string) api.Op   { return api.Op{Kind: api.OpList, Path: path} }
func read(path string) api.Op   { return api.Op{Kind: api.OpRead, Path: path, N: api.MaxFile} }

func write(path string, at int, data string) api.Op {
	return api.Op{Kind: api.OpWrite, Path: path, At: at, Data: data}
}

func cut(path string, n int) api.Op { return api.Op{Kind: api.OpCut, Path: path, N: n} }

func rename(path, to string) api.Op { return api.Op{Kind: api.OpRename, Path: path, To: to} }

// What follows does the document's words once more, from top to bottom, over lists that are gone through, against which the
// program is held. The layers below are taken for what they say, but for frames and buckets.

func plainBucket(c api.Config, size int) int {
	n := max(size+5, c.Least)
	e, s := 0, 1
	for 1<<(e+1) <= n {
		e++
	}
	for 1<<s <= e {
		s++
	}
	for n%(1<<max(e-s, 0)) != 0 {
		n++
	}
	return n
}

func plainPack(kind int, body string, size int) string {
	b := []byte{byte(kind), 0, byte(len(body) >> 16), byte(len(body) >> 8), byte(len(body))}
	return string(b) + body + strings.Repeat("\x00", size-5-len(body))
}

func plainUnpack(kind int, text string) (string, bool) {
	if len(text) < 5 || len(text) > api.MaxBlob || int(text[0]) != kind {
		return "", false
	}
	n := int(text[1])<<24 | int(text[2])<<16 | int(text[3])<<8 | int(text[4])
	if n > len(text)-5 || strings.Trim(text[5+n:], "\x00") != "" {
		return "", false
	}
	return text[5 : 5+n], true
}

func plainTag(blob string) string {
	if len(blob) < 16 {
		return ""
	}
	return blob[len(blob)-16:]
}

// drawn counts what was drawn once more, over all calls.
type drawn struct{ names, coins int }

// plainDraw is the names of that many objects, and the coins of these sizes.
func plainDraw(t *tape.Tape, s seal.Sealer, taken []string, names int, sizes []int, count *drawn) ([]string, []string, api.Errno) {
	var n, coins []string
	for len(n) < names {
		x, e := t.Draw(16)
		if e != api.OK {
			return nil, nil, api.ErrEntropy
		}
		if slices.Contains(taken, x) || slices.Contains(n, x) {
			count.names++
			continue
		}
		n = append(n, x)
	}
	for len(coins) < len(sizes) {
		x, e := t.Draw(s.Coins(sizes[len(coins)]))
		if e != api.OK {
			return nil, nil, api.ErrEntropy
		}
		if !s.Fresh(x) || slices.ContainsFunc(coins, func(y string) bool { return plainTag(y) == plainTag(x) }) {
			count.coins++
			continue
		}
		coins = append(coins, x)
	}
	return n, coins, api.OK
}

func plainNames(st api.State) []string {
	var names []string
	for _, o := range st.Pool.Objects {
		names = append(names, o.Name)
	}
	for _, p := range st.Root.Pages {
		names = append(names, p.Name)
	}
	return names
}

// plainLay seals and puts: the contents of these rows with these buckets, the pages, the root.
func plainLay(w *world.World, s seal.Sealer, c api.Config, st api.State, rows, buckets []int, contents, names, coins []string) (api.State, api.Errno) {
	var blobs []string
	for i, row := range rows {
		b, _ := s.Seal(api.KindData, names[i], plainPack(api.KindData, contents[i], buckets[i]), coins[i])
		o := &st.Pool.Objects[row]
		o.Name, o.Tag, o.Bucket = names[i], plainTag(b), buckets[i]
		blobs = append(blobs, b)
	}
	bodies, e := index.Encode(c, st.Tree, st.Pool)
	if e != api.OK {
		return api.State{}, e
	}
	st.Root = api.Root{Config: c}
	for _, body := range bodies {
		i := len(blobs)
		b, _ := s.Seal(api.KindPage, names[i], plainPack(api.KindPage, body, c.Page), coins[i])
		st.Root.Pages = append(st.Root.Pages, api.Ref{Name: names[i], Tag: plainTag(b)})
		blobs = append(blobs, b)
	}
	body, e := index.EncodeRoot(c, st.Root)
	if e != api.OK {
		return api.State{}, e
	}
	root, _ := s.Seal(api.KindRoot, api.RootName, plainPack(api.KindRoot, body, 32+32*len(bodies)), coins[len(blobs)])
	for i, b := range blobs {
		if w.Put(names[i], b) != api.OK {
			return api.State{}, api.ErrDown
		}
	}
	if w.Pend(plainTag(root)) != api.OK || w.Put(api.RootName, root) != api.OK || w.Commit() != api.OK {
		return api.State{}, api.ErrDown
	}
	return st, api.OK
}

func plainFormat(w *world.World, t *tape.Tape, s seal.Sealer, c api.Config, count *drawn) api.Errno {
	r, e := w.Load()
	if e != api.OK {
		return e
	}
	if r.Stopped {
		return api.ErrTampered
	}
	if r.Current != "" {
		return api.ErrVault
	}
	m, _ := index.Pages(c)
	st := api.State{Tree: api.TreeState{Files: c.Files, Dirs: c.Dirs}}
	var rows, buckets []int
	for i := 0; i < c.Files+c.Slots; i++ {
		rows, buckets = append(rows, i), append(buckets, plainBucket(c, 0))
		st.Pool.Objects, st.Pool.Queue = append(st.Pool.Objects, api.Object{Owner: -1}), append(st.Pool.Queue, i)
	}
	sizes := append(slices.Clone(buckets), slices.Repeat([]int{c.Page}, m)...)
	names, coins, e := plainDraw(t, s, nil, len(rows)+m, append(sizes, 32+32*m), count)
	if e != api.OK {
		return e
	}
	if r.Pending != "" && w.Forget() != api.OK {
		return api.ErrDown
	}
	listed, e := w.List()
	if e != api.OK {
		return e
	}
	for _, name := range listed {
		if w.Delete(name) == api.ErrDown {
			return api.ErrDown
		}
	}
	_, e = plainLay(w, s, c, st, rows, buckets, make([]string, len(rows)), names, coins)
	return e
}

func plainStop(w *world.World) api.Errno {
	if w.Stop() != api.OK {
		return api.ErrDown
	}
	return api.ErrTampered
}

func plainRecover(w *world.World, s seal.Sealer, c api.Config) (api.State, api.Errno) {
	var none api.State
	r, e := w.Load()
	if e != api.OK {
		return none, e
	}
	if r.Stopped {
		return none, api.ErrTampered
	}
	if r.Current == "" && r.Pending == "" {
		return none, api.ErrBlank
	}
	refused := func() (api.State, api.Errno) {
		if r.Current == "" {
			return none, api.ErrBlank
		}
		return none, plainStop(w)
	}
	blob, e := w.Get(api.RootName)
	if e == api.ErrDown {
		return none, e
	}
	isNew := r.Pending != "" && plainTag(blob) == r.Pending
	isOld := !isNew && r.Current != "" && plainTag(blob) == r.Current
	text, f := s.Open(api.KindRoot, api.RootName, blob)
	body, ok := plainUnpack(api.KindRoot, text)
	if e == api.ErrNone || !isNew && !isOld || f != api.OK || !ok {
		return refused()
	}
	st := api.State{}
	st.Root, e = index.DecodeRoot(c, body)
	if e == api.ErrConfig {
		return none, e
	}
	if e != api.OK {
		return refused()
	}
	var bodies []string
	for _, p := range st.Root.Pages {
		blob, e := w.Get(p.Name)
		if e == api.ErrDown {
			return none, e
		}
		text, f := s.Open(api.KindPage, p.Name, blob)
		body, ok := plainUnpack(api.KindPage, text)
		if e == api.ErrNone || plainTag(blob) != p.Tag || f != api.OK || !ok {
			return refused()
		}
		bodies = append(bodies, body)
	}
	st.Tree, st.Pool, e = index.Decode(c, bodies)
	_, f = tree.Load(st.Tree, c.MaxFile)
	_, g := pool.Load(st.Pool, c.Files, c.Slots)
	if e != api.OK || f != api.OK || g != api.OK {
		return refused()
	}
	if isNew && w.Commit() != api.OK || isOld && r.Pending != "" && w.Forget() != api.OK {
		return none, api.ErrDown
	}
	return plainSweep(w, st)
}

func plainSweep(w *world.World, st api.State) (api.State, api.Errno) {
	listed, e := w.List()
	if e != api.OK {
		return api.State{}, e
	}
	own := append(plainNames(st), api.RootName)
	for _, name := range own {
		if !slices.Contains(listed, name) {
			return api.State{}, plainStop(w)
		}
	}
	for _, name := range listed {
		if !slices.Contains(own, name) && w.Delete(name) == api.ErrDown {
			return api.State{}, api.ErrDown
		}
	}
	return st, api.OK
}

func plainBatch(w *world.World, t *tape.Tape, s seal.Sealer, c api.Config, st api.State, ops []api.Op, count *drawn) (api.State, []api.Result, api.Errno) {
	var none api.State
	_, e1 := index.Encode(c, st.Tree, st.Pool)
	_, e2 := index.EncodeRoot(c, st.Root)
	files, e3 := tree.Load(st.Tree, c.MaxFile)
	table, e4 := pool.Load(st.Pool, c.Files, c.Slots)
	for _, e := range []api.Errno{e1, e2, e3, e4} {
		if e != api.OK {
			return none, nil, e
		}
	}
	p, behind, rows, e := plan.Make(c, files, table, ops)
	if e != api.OK {
		return none, nil, e
	}
	var touched, buckets []int
	for _, s := range p.Slots {
		touched, buckets = append(touched, s.Object), append(buckets, s.Bucket)
	}
	m := len(st.Root.Pages)
	sizes := append(slices.Clone(buckets), slices.Repeat([]int{c.Page}, m)...)
	names, coins, e := plainDraw(t, s, plainNames(st), c.Slots+m, append(sizes, 32+32*m), count)
	if e != api.OK {
		return none, nil, e
	}
	var contents []string
	for _, x := range p.Slots {
		o := st.Pool.Objects[x.Object]
		blob, e := w.Get(o.Name)
		if e == api.ErrDown {
			return none, nil, e
		}
		size := 0
		for _, n := range st.Tree.Nodes {
			if n.Kind == api.IsFile && n.Number == x.Was {
				size = n.Size
			}
		}
		text, f := s.Open(api.KindData, o.Name, blob)
		body, ok := plainUnpack(api.KindData, text)
		if e == api.ErrNone || f != api.OK || plainTag(blob) != o.Tag || !ok || len(body) != size {
			return none, nil, plainStop(w)
		}
		contents = append(contents, body)
	}
	out, e := exec.Apply(p, contents)
	if e != api.OK {
		return none, nil, e
	}
	next, e := plainLay(w, s, c, api.State{Tree: behind.State(), Pool: rows.State()}, touched, buckets, out.Contents, names, coins)
	if e != api.OK {
		return none, nil, e
	}
	var old []string
	for _, row := range touched {
		old = append(old, st.Pool.Objects[row].Name)
	}
	for _, name := range append(old, plainNames(api.State{Root: st.Root})...) {
		if w.Delete(name) == api.ErrDown {
			return none, nil, api.ErrDown
		}
	}
	return next, out.Results, api.OK
}

// The examples of the chapter.

func TestExampleFormat(t *testing.T) {
	r := blank(t, six())
	r.takeUp(t, api.ErrBlank)
	r.wantCalls(t, 0, "")
	r.format(t, api.OK)
	r.wantCalls(t, 0, "LPPPPPPPP*")
	if r.t.Drawn() != 1120 {
		t.Errorf("%d bytes were drawn", r.t.Drawn())
	}
	at := 7 * 16
	for i, c := range r.w.Trace()[1:] {
		size := 40 + []int{16, 16, 16, 16, 16, 256, 256, 96}[i]
		if i < 7 && c.Name != longTape[16*i:16*i+16] {
			t.Errorf("the put %d has the name %x", i, c.Name)
		}
		if c.Blob != longTape[at:at+size] {
			t.Errorf("the put %d has the blob %x", i, c.Blob)
		}
		at += size
	}
	if k := r.w.Kept(); k != (api.Register{Current: longTape[1104:1120]}) {
		t.Errorf("the register: %+v", k)
	}
	r.format(t, api.ErrVault)
	if r.w.Calls() != 9 || r.t.Drawn() != 1120 {
		t.Errorf("a second Format: %d calls, %d bytes", r.w.Calls(), r.t.Drawn())
	}
	r.takeUp(t, api.OK)
	r.wantCalls(t, 9, "G*GGL")
	if len(r.st.Tree.Nodes) != 0 || !slices.Equal(r.st.Pool.Queue, []int{0, 1, 2, 3, 4}) || r.st.Root.Config != six() {
		t.Errorf("the first state: %+v", r.st)
	}
	if held := r.whole(t); len(held) != 0 {
		t.Errorf("a new vault holds %v", held)
	}
}

func TestExampleBatch(t *testing.T) {
	r := made(t, six())
	old, from := r.st, r.w.Calls()
	if l := r.batch(t, api.OK, mkdir("/a")); !sameResults(l, []api.Result{{}}) {
		t.Errorf("Mkdir: %+v", l)
	}
	r.wantCalls(t, from, "GGPPPPP*DDDD")
	trace, rows := r.w.Trace()[from:], r.st.Pool.Objects
	for i, name := range []string{old.Pool.Objects[0].Name, old.Pool.Objects[1].Name, rows[0].Name, rows[1].Name, r.st.Root.Pages[0].Name, r.st.Root.Pages[1].Name, api.RootName, old.Pool.Objects[0].Name, old.Pool.Objects[1].Name, old.Root.Pages[0].Name, old.Root.Pages[1].Name} {
		if trace[i].Name != name {
			t.Errorf("the call %d is of %x, want %x", i, trace[i].Name, name)
		}
	}
	if !slices.Equal(r.st.Pool.Queue, []int{2, 3, 4, 0, 1}) {
		t.Errorf("the queue: %v", r.st.Pool.Queue)
	}
	if k := r.w.Kept(); k != (api.Register{Current: plainTag(trace[6].Blob)}) {
		t.Errorf("the register: %+v", k)
	}
	if r.t.Drawn() != 1120+904 {
		t.Errorf("%d bytes were drawn", r.t.Drawn()-1120)
	}
	if held := r.whole(t); !reflect.DeepEqual(held, map[string]string{"/a": "dir"}) {
		t.Errorf("the vault holds %v", held)
	}
	drawn, calls := r.t.Drawn(), r.w.Calls()
	r.batch(t, api.ErrBatch, list("/"), list("/"), list("/"))
	if r.t.Drawn() != drawn || r.w.Calls() != calls {
		t.Error("ErrBatch behind a draw, or a call")
	}
	r.setTape(t, longTape[:100])
	r.batch(t, api.ErrEntropy)
	if r.t.Left() != 0 || r.w.Calls() != calls {
		t.Errorf("ErrEntropy: %d bytes are left, %d calls", r.t.Left(), r.w.Calls()-calls)
	}
}

func TestExamplePower(t *testing.T) {
	for _, fuse := range []int{8, 7} {
		r := made(t, six())
		old := r.st
		next := r.twin(t)
		next.batch(t, api.OK)
		from := r.w.Calls()
		r.w.Arm(fuse)
		r.batch(t, api.ErrDown)
		r.wantCalls(t, from, "GGPPPPP*"[:len("GGPPPPP*")-2*(8-fuse)])
		if k := r.w.Kept(); k.Pending != next.w.Kept().Current || k.Current == "" {
			t.Errorf("fuse %d: the register: %+v", fuse, k)
		}
		r.w.Power()
		from = r.w.Calls()
		r.takeUp(t, api.OK)
		r.wantCalls(t, from, "G*GGLDDDD")
		want := old
		if fuse == 8 {
			want = next.st
		}
		if !sameState(r.st, want) {
			t.Errorf("fuse %d: the state %+v", fuse, r.st)
		}
		r.whole(t)
	}
}

func TestExampleTampered(t *testing.T) {
	r := made(t, six())
	from := r.w.Calls()
	r.w.Plan(api.Edit{Before: from + 1, Kind: api.EditSet, Put: 1, Blob: "x"})
	r.batch(t, api.ErrTampered)
	r.wantCalls(t, from, "GG")
	r.wantStopped(t)
	r = made(t, six())
	r.batch(t, api.OK)
	from = r.w.Calls()
	r.w.Plan(api.Edit{Before: from, Kind: api.EditReplay, Put: 7, From: 7})
	r.takeUp(t, api.ErrTampered)
	r.wantCalls(t, from, "G*")
	r.wantStopped(t)
}

// wantStopped is P17.7's: nothing more is done, for good.
func (r *rig) wantStopped(t *testing.T) {
	t.Helper()
	calls, drawn, left := r.w.Calls(), r.t.Drawn(), r.t.Left()
	for range 2 {
		r.takeUp(t, api.ErrTampered)
		r.format(t, api.ErrTampered)
	}
	if !r.w.Kept().Stopped || r.w.Calls() != calls || r.t.Drawn() != drawn || r.t.Left() != left {
		t.Errorf("behind ErrTampered: %+v, %d calls, %d bytes", r.w.Kept(), r.w.Calls()-calls, r.t.Drawn()-drawn)
	}
}

func TestExampleConfig(t *testing.T) {
	r := made(t, six())
	from, k := r.w.Calls(), r.w.Kept()
	r.c.Least = 17
	r.takeUp(t, api.ErrConfig)
	r.wantCalls(t, from, "G*")
	if r.w.Kept() != k {
		t.Errorf("the register: %+v", r.w.Kept())
	}
	r.c = six()
	r.takeUp(t, api.OK)
}

func TestExampleFormatCutOff(t *testing.T) {
	for _, x := range []struct {
		fuse           int
		code           api.Errno
		calls          string
		format, behind string
	}{
		{4, api.ErrBlank, "", "LDDPPPPPPPP*", "LPP"},
		{11, api.OK, "G*GGL", "", "LPPPPPPPP*"},
		{10, api.ErrBlank, "G*", "LDDDDDDDPPPPPPPP*", "LPPPPPPP"},
	} {
		r := blank(t, six())
		r.w.Arm(x.fuse)
		r.format(t, api.ErrDown)
		r.wantCalls(t, 0, x.behind)
		r.w.Power()
		from := r.w.Calls()
		r.takeUp(t, x.code)
		r.wantCalls(t, from, x.calls)
		if x.code != api.OK {
			from = r.w.Calls()
			r.format(t, api.OK)
			r.wantCalls(t, from, x.format)
			r.takeUp(t, api.OK)
		}
		r.whole(t)
	}
}

func TestExampleContents(t *testing.T) {
	r := made(t, six())
	r.batch(t, api.OK, mkdir("/a"), create("/a/f"))
	l := r.batch(t, api.OK, write("/a/f", 1, "hi"), read("/a/f"))
	if !sameResults(l, []api.Result{{N: 2}, {Data: "\x00hi", N: 3}}) {
		t.Errorf("%+v", l)
	}
	l = r.batch(t, api.OK, list("/"), stat("/a/f"))
	if !sameResults(l, []api.Result{{Names: []string{"a"}}, {Kind: api.IsFile, Size: 3}}) {
		t.Errorf("%+v", l)
	}
	if held := r.whole(t); !reflect.DeepEqual(held, map[string]string{"/a": "dir", "/a/f": "file \x00hi"}) {
		t.Errorf("the vault holds %q", held)
	}
	r.takeUp(t, api.OK)
	l = r.batch(t, api.OK, read("/a/f"), read("/b"))
	if !sameResults(l, []api.Result{{Data: "\x00hi", N: 3}, {Code: api.ErrAbsent}}) {
		t.Errorf("%+v", l)
	}
}

// P17.1

// spoilt is configurations that may not be.
func spoilt() []api.Config {
	var l []api.Config
	for _, f := range []func(*api.Config){
		func(c *api.Config) { *c = api.Config{} },
		func(c *api.Config) { c.Slots = 0 },
		func(c *api.Config) { c.Slots = 65 },
		func(c *api.Config) { c.Files = 0 },
		func(c *api.Config) { c.Files = api.MaxFiles + 1 },
		func(c *api.Config) { c.Files = api.MaxFiles },
		func(c *api.Config) { c.Dirs = -1 },
		func(c *api.Config) { c.Dirs = math.MaxInt },
		func(c *api.Config) { c.MaxFile = -1 },
		func(c *api.Config) { c.MaxFile = api.MaxFile + 1 },
		func(c *api.Config) { c.Least = 15 },
		func(c *api.Config) { c.Least = math.MinInt },
		func(c *api.Config) { c.Page = 63 },
		func(c *api.Config) { c.Page = api.MaxPage + 1 },
	} {
		c := six()
		f(&c)
		l = append(l, c)
	}
	return l
}

// wantAll is one error of all three calls; Recover, which is handed no tape, is not asked where there is none.
func wantAll(t *testing.T, what string, w *world.World, x *tape.Tape, s seal.Sealer, c api.Config, st api.State, ops []api.Op, want api.Errno) {
	t.Helper()
	if e := Format(w, x, s, c); e != want {
		t.Errorf("%s: Format: %d, want %d", what, e, want)
	}
	next, results, e := Batch(w, x, s, c, st, ops)
	if e != want || !reflect.DeepEqual(next, api.State{}) || len(results) != 0 {
		t.Errorf("%s: Batch: %+v, %+v, %d, want %d", what, next, results, e, want)
	}
	if x == nil {
		return
	}
	if st, e := Recover(w, s, c); e != want || !reflect.DeepEqual(st, api.State{}) {
		t.Errorf("%s: Recover: %+v, %d, want %d", what, st, e, want)
	}
}

func TestNilAheadOfConfigAheadOfAll(t *testing.T) {
	r := made(t, six())
	r.batch(t, api.OK, create("/f"))
	three := make([]api.Op, 3)
	calls, drawn, k := r.w.Calls(), r.t.Drawn(), r.w.Kept()
	var ideal *seal.Ideal
	var real *seal.Real
	for _, c := range append(spoilt(), six()) {
		for _, st := range []api.State{r.st, {}} {
			wantAll(t, "no world", nil, r.t, r.s, c, st, three, api.ErrNil)
			wantAll(t, "no tape", r.w, nil, r.s, c, st, three, api.ErrNil)
			wantAll(t, "no sealer", r.w, r.t, nil, c, st, three, api.ErrNil)
			wantAll(t, "a nil ideal sealer", r.w, r.t, ideal, c, st, three, api.ErrNil)
			wantAll(t, "a nil real sealer", r.w, r.t, real, c, st, three, api.ErrNil)
			wantAll(t, "nothing", nil, nil, nil, c, st, nil, api.ErrNil)
			if c != six() {
				wantAll(t, fmt.Sprint(c), r.w, r.t, r.s, c, st, three, api.ErrConfig)
			}
		}
	}
	r.w.Arm(0)
	wantAll(t, "no configuration, the power off", r.w, r.t, r.s, api.Config{}, r.st, nil, api.ErrConfig)
	r.w.Power()
	if r.w.Calls() != calls || r.t.Drawn() != drawn || r.w.Kept() != k || r.t.Left() != len(r.bytes)-drawn {
		t.Error("a call that was refused has done something")
	}
	r.batch(t, api.OK, stat("/f"))
}

// TestZeroStructs: what these answer is not said, but that they end and none panics.
func TestZeroStructs(t *testing.T) {
	r := made(t, six())
	for i, e := range []api.Errno{
		Format(&world.World{}, r.t, r.s, six()),
		Format(world.New(), &tape.Tape{}, r.s, six()),
		Format(r.w, r.t, &seal.Ideal{}, six()),
		Format(r.w, r.t, &seal.Real{}, six()),
	} {
		if e == api.OK {
			t.Errorf("row %d: a Format with something that is not there", i)
		}
	}
	_, a := Recover(&world.World{}, r.s, six())
	_, b := Recover(r.w, &seal.Ideal{}, six())
	_, _, c := Batch(&world.World{}, r.t, r.s, six(), r.st, nil)
	_, _, d := Batch(r.w, &tape.Tape{}, r.s, six(), r.st, nil)
	_, _, e := Batch(r.w, r.t, &seal.Ideal{}, six(), r.st, nil)
	if a == api.OK || b == api.OK || c == api.OK || d == api.OK || e == api.OK {
		t.Errorf("%d %d %d %d %d", a, b, c, d, e)
	}
}

// broken is a sealer of nobody's, that throws at one of its calls.
type broken struct {
	seal.Sealer
	at string
}

func (b broken) Fresh(coins string) bool {
	if b.at == "Fresh" {
		panic("Fresh")
	}
	return b.Sealer.Fresh(coins)
}

func (b broken) Seal(kind int, name, text, coins string) (string, api.Errno) {
	if b.at == "Seal" {
		panic(fmt.Errorf("Seal"))
	}
	return b.Sealer.Seal(kind, name, text, coins)
}

func (b broken) Open(kind int, name, blob string) (string, api.Errno) {
	if b.at == "Open" {
		panic(17)
	}
	return b.Sealer.Open(kind, name, blob)
}

func TestNoPanicWhateverTheSealer(t *testing.T) {
	r := made(t, six())
	wantAll(t, "a sealer of nothing", r.w, r.t, broken{}, six(), r.st, nil, api.ErrNil)
	for _, at := range []string{"Fresh", "Seal", "Open"} {
		_, _, e := Batch(r.w, r.t, broken{r.s, at}, six(), r.st, nil)
		if e == api.OK {
			t.Errorf("%s: a batch is done with a sealer that throws", at)
		}
	}
	if e := Format(world.New(), r.t, broken{r.s, "Seal"}, six()); e == api.OK {
		t.Error("a vault is made with a sealer that throws")
	}
	if _, e := Recover(r.w, broken{r.s, "Open"}, six()); e == api.OK {
		t.Error("a vault is taken up with a sealer that throws")
	}
	r.takeUp(t, api.OK)
	r.whole(t)
}

// roomy is a list with room behind its end, in which x stands.
func roomy[T any](l []T, x T) []T { return append(slices.Clone(l), x, x, x)[:len(l)] }

func behindEnd[T any](l []T) []T { return l[len(l) : len(l)+3] }

func roomyState(s api.State) api.State {
	s.Tree.Nodes = roomy(s.Tree.Nodes, api.Node{Name: "behind"})
	s.Pool.Objects = roomy(s.Pool.Objects, api.Object{Name: "behind"})
	s.Pool.Queue = roomy(s.Pool.Queue, -77)
	s.Root.Pages = roomy(s.Root.Pages, api.Ref{Name: "behind"})
	return s
}

func wantUntouched(t *testing.T, s, was api.State) {
	t.Helper()
	if !sameState(s, was) {
		t.Errorf("the state that was handed in is another one: %+v, was %+v", s, was)
	}
	for i := range 3 {
		if behindEnd(s.Tree.Nodes)[i].Name != "behind" || behindEnd(s.Pool.Objects)[i].Name != "behind" || behindEnd(s.Pool.Queue)[i] != -77 || behindEnd(s.Root.Pages)[i].Name != "behind" {
			t.Error("what lies behind the lists that were handed in is changed")
		}
	}
}

func TestWhatIsHandedInStays(t *testing.T) {
	r := made(t, six())
	for _, ops := range [][]api.Op{
		{mkdir("/d"), create("/d/f")}, {write("/d/f", 3, "abc"), list("/d")}, {create("/g"), rename("/g", "/d/f")}, {remove("/d/f"), {}}, {{}, {}, {}}, nil,
	} {
		was := copyOf(r.st)
		st, in := roomyState(r.st), roomy(ops, api.Op{Path: "behind"})
		next, _, e := Batch(r.w, r.t, r.s, r.c, st, in)
		wantUntouched(t, st, was)
		if !slices.Equal(in, ops) || behindEnd(in)[0].Path != "behind" || behindEnd(in)[2].Path != "behind" {
			t.Errorf("the operations that were handed in: %+v", in)
		}
		if e == api.OK {
			r.st = next
		}
	}
	r.whole(t)
}

// scribble writes over all of a list's memory, spare room too.
func scribble[T any](l []T, x T) {
	l = l[:cap(l)]
	for i := range l {
		l[i] = x
	}
}

func scribbleState(s api.State) {
	scribble(s.Tree.Nodes, api.Node{Name: "x"})
	scribble(s.Pool.Objects, api.Object{Name: "x"})
	scribble(s.Pool.Queue, -5)
	scribble(s.Root.Pages, api.Ref{Name: "x"})
}

func TestAnswersAreNewMemory(t *testing.T) {
	r := made(t, six())
	r.batch(t, api.OK, mkdir("/d"), create("/d/f"))
	good := copyOf(r.st)
	scribbleState(r.st)
	r.takeUp(t, api.OK)
	if !sameState(r.st, good) {
		t.Fatal("what was written into an answer is seen by the next Recover")
	}
	st, results, e := Batch(r.w, r.t, r.s, r.c, r.st, []api.Op{list("/"), list("/d")})
	if e != api.OK || !sameState(r.st, good) {
		t.Fatalf("Batch: %d", e)
	}
	next := copyOf(st)
	scribble(results[0].Names, "x")
	if !slices.Equal(results[1].Names, []string{"f"}) {
		t.Error("the names of two results are one list")
	}
	scribble(results, api.Result{Data: "x"})
	scribbleState(r.st)
	if !sameState(st, next) {
		t.Error("the state that is answered has something of the one that went in")
	}
	scribbleState(st)
	r.takeUp(t, api.OK)
	if !sameState(r.st, next) {
		t.Error("what was written into an answer is seen by the next Recover")
	}
	r.whole(t)
}

func TestNilAndEmptyListsAreTheSame(t *testing.T) {
	r := made(t, six())
	x := r.twin(t)
	r.st.Tree.Nodes, x.st.Tree.Nodes = nil, []api.Node{}
	a, l, e := Batch(r.w, r.t, r.s, r.c, r.st, nil)
	b, m, f := Batch(x.w, x.t, x.s, x.c, x.st, []api.Op{})
	if e != api.OK || f != api.OK || len(l) != 0 || len(m) != 0 || !sameState(a, b) {
		t.Errorf("%d, %d", e, f)
	}
}

func TestManyAtOnce(t *testing.T) {
	want := made(t, six())
	want.batch(t, api.OK, create("/f"), write("/f", 0, "x"))
	want.takeUp(t, api.OK)
	var all sync.WaitGroup
	for range 8 {
		all.Go(func() {
			w, x, s := world.New(), mustTape(t, longTape), mustIdeal(t, nil)
			e := Format(w, x, s, six())
			st, f := Recover(w, s, six())
			_, _, g := Batch(w, x, s, six(), st, []api.Op{create("/f"), write("/f", 0, "x")})
			st, h := Recover(w, s, six())
			if e != api.OK || f != api.OK || g != api.OK || h != api.OK || !sameState(st, want.st) {
				t.Errorf("%d, %d, %d, %d: another state", e, f, g, h)
			}
		})
	}
	all.Wait()
}

// P17.2

func TestFormatLooksAtTheRegisterFirst(t *testing.T) {
	tag, other := strings.Repeat("t", 16), strings.Repeat("u", 16)
	for i, x := range []struct {
		r    api.Register
		want api.Errno
	}{
		{api.Register{Stopped: true}, api.ErrTampered},
		{api.Register{Current: tag, Stopped: true}, api.ErrTampered},
		{api.Register{Pending: tag, Stopped: true}, api.ErrTampered},
		{api.Register{Current: tag}, api.ErrVault},
		{api.Register{Current: tag, Pending: other}, api.ErrVault},
	} {
		r := blank(t, six())
		r.w = mustAdopt(t, []api.Blob{{Name: "a", Blob: "b"}}, x.r)
		r.setTape(t, "")
		r.format(t, x.want)
		if r.w.Calls() != 0 || r.w.Kept() != x.r || len(r.w.Dump()) != 1 {
			t.Errorf("row %d: %d calls, %+v", i, r.w.Calls(), r.w.Kept())
		}
		r.w.Arm(0)
		r.format(t, api.ErrDown)
	}
}

// TestFormatDrawsAheadOfAll: where the tape is too short nothing has been done but the Load.
func TestFormatDrawsAheadOfAll(t *testing.T) {
	k := api.Register{Pending: strings.Repeat("t", 16)}
	for _, n := range []int{0, 1, 15, 16, 7*16 - 1, 7 * 16, 7*16 + 55, 7*16 + 56, 1119, 1120, 1121} {
		r := blank(t, six())
		r.w = mustAdopt(t, []api.Blob{{Name: "a", Blob: "b"}, {Name: strings.Repeat("z", 64)}}, k)
		r.setTape(t, longTape[:n])
		if n >= 1120 {
			r.format(t, api.OK)
			r.wantCalls(t, 0, "LDDPPPPPPPP*")
			if r.t.Left() != n-1120 {
				t.Errorf("%d bytes: %d are left", n, r.t.Left())
			}
			continue
		}
		r.w.Arm(2)
		r.format(t, api.ErrEntropy)
		if r.w.Calls() != 0 || r.w.Kept() != k || r.w.Down() || r.t.Left() != 0 || len(r.s.(*seal.Ideal).Table()) != 0 {
			t.Errorf("%d bytes: %d calls, %+v, %d bytes are left", n, r.w.Calls(), r.w.Kept(), r.t.Left())
		}
		r.w.Forget()
		if !r.w.Down() {
			t.Errorf("%d bytes: not just one call was made", n)
		}
	}
}

// TestFormatForgets: what another Format has left pending does not count, wherever this one is cut off.
func TestFormatForgets(t *testing.T) {
	for _, x := range []struct {
		fuse    int
		calls   string
		pending bool
	}{
		{1, "", true}, {2, "", false}, {3, "L", false}, {4, "LD", false}, {11, "LDDDDDDDD", false}, {12, "LDDDDDDDDP", false}, {18, "LDDDDDDDDPPPPPPP", false}, {19, "LDDDDDDDDPPPPPPP", true}, {20, "LDDDDDDDDPPPPPPPP*", true},
	} {
		r := blank(t, six())
		r.w.Arm(11)
		r.format(t, api.ErrDown)
		r.w.Power()
		old, from := r.w.Kept().Pending, r.w.Calls()
		r.w.Arm(x.fuse)
		r.format(t, api.ErrDown)
		if calls := strings.ReplaceAll(r.calls(from), "D*", "D"); calls != x.calls {
			t.Errorf("fuse %d: the calls are %q, want %q", x.fuse, calls, x.calls)
		}
		if k := r.w.Kept(); k.Current != "" || (k.Pending != "") != x.pending || x.fuse > 1 && k.Pending == old {
			t.Errorf("fuse %d: the register %+v", x.fuse, k)
		}
		r.w.Power()
		r.format(t, api.OK)
		r.takeUp(t, api.OK)
		r.whole(t)
	}
	r := blank(t, six())
	r.w.Arm(2)
	r.format(t, api.ErrDown)
	if r.calls(0) != "L" {
		t.Errorf("without a Pending nothing is forgotten: %q", r.calls(0))
	}
}

// TestDeletesLetGo: what another hand has taken away ahead of a Delete is away.
func TestDeletesLetGo(t *testing.T) {
	r := blank(t, six())
	r.w.Put("a", "x")
	r.w.Put("b", "y")
	r.w.Plan(api.Edit{Before: 3, Kind: api.EditDrop, Put: 0})
	r.format(t, api.OK)
	r.wantCalls(t, 2, "LDDPPPPPPPP*")
	if x := r.w.Trace()[3]; x.Code != api.ErrNone || x.Name != "a" {
		t.Errorf("the first Delete: %+v", x)
	}
	r.w.Put("a", "x") // the puts 10 and 11: two objects ahead of these, the vault's eight behind them
	r.w.Put("b", "y")
	from := r.w.Calls()
	r.w.Plan(api.Edit{Before: from + 4, Kind: api.EditDrop, Put: 10})
	r.takeUp(t, api.OK)
	r.wantCalls(t, from, "G*GGLDD")
	r.whole(t)
	from = r.w.Calls()
	for i, put := range []int{2, 3, 7, 8} {
		r.w.Plan(api.Edit{Before: from + 7 + i, Kind: api.EditDrop, Put: put})
	}
	r.batch(t, api.OK)
	r.wantCalls(t, from, "GGPPPPP*DDDD")
	for _, x := range r.w.Trace()[from+7:] {
		if x.Code != api.ErrNone {
			t.Errorf("a Delete that was done already: %+v", x)
		}
	}
	r.whole(t)
}

// TestDeletesInTheListsOrder: what is no vault's is taken away by rising names.
func TestDeletesInTheListsOrder(t *testing.T) {
	names := []string{"\x00", "a", "b", strings.Repeat("m", 16), "roo", "rooT", "root ", strings.Repeat("\xff", 64)}
	r := blank(t, six())
	for _, i := range rand.New(rand.NewSource(1)).Perm(len(names)) {
		r.w.Put(names[i], "x")
	}
	r.w.Put(api.RootName, "x")
	from := r.w.Calls()
	r.format(t, api.OK)
	all := slices.Sorted(slices.Values(append(slices.Clone(names), api.RootName)))
	if gone := r.deleted(from); !slices.Equal(gone, all) {
		t.Errorf("Format deletes %q", gone)
	}
	for _, name := range names {
		r.w.Put(name, "x")
	}
	from = r.w.Calls()
	r.takeUp(t, api.OK)
	slices.Sort(names)
	if gone := r.deleted(from); !slices.Equal(gone, names) {
		t.Errorf("Recover deletes %q", gone)
	}
	r.whole(t)
}

// deleted is the names that were deleted from a call on, in their order.
func (r *rig) deleted(from int) []string {
	var names []string
	for _, c := range r.w.Trace()[from:] {
		if c.Kind == api.CallDelete {
			names = append(names, c.Name)
		}
	}
	return names
}

// Names and coins.

func sixteen(letter string) string { return strings.Repeat(letter, 16) }

// namesDrawn is the names under which a Format puts, from a tape that begins so.
func namesDrawn(t *testing.T, ahead string) ([]string, int) {
	t.Helper()
	r := blank(t, six())
	r.setTape(t, ahead+longTape)
	r.format(t, api.OK)
	var names []string
	for _, c := range r.w.Trace()[1:8] {
		names = append(names, c.Name)
	}
	return names, r.t.Drawn()
}

func TestNamesAreDrawnAgain(t *testing.T) {
	a, b := sixteen("a"), sixteen("b")
	next := func(i int) string { return longTape[16*i : 16*i+16] }
	for i, x := range []struct {
		ahead string
		names []string
		more  int
	}{
		{"", []string{next(0), next(1), next(2), next(3), next(4), next(5), next(6)}, 0},
		{a + a + a + b + a + b, []string{a, b, next(0), next(1), next(2), next(3), next(4)}, 4},
		{a + next(0) + b + next(0), []string{a, next(0), b, next(1), next(2), next(3), next(4)}, 2},
		{a + b + sixteen("c") + sixteen("d") + sixteen("e") + a + sixteen("f") + sixteen("f"), []string{a, b, sixteen("c"), sixteen("d"), sixteen("e"), sixteen("f"), next(0)}, 2},
	} {
		names, drawn := namesDrawn(t, x.ahead)
		if !slices.Equal(names, x.names) || drawn != 1120+16*x.more {
			t.Errorf("row %d: the names %q, %d bytes", i, names, drawn)
		}
	}
}

// TestNamesOfTheStateAreTaken: those of rows that the batch does not touch too, and those of the pages; not those of other
// objects of the store.
func TestNamesOfTheStateAreTaken(t *testing.T) {
	r := made(t, six())
	taken := plainNames(r.st)
	r.w.Put(sixteen("x"), "x")
	r.setTape(t, strings.Join(taken, "")+sixteen("x")+sixteen("x")+longTape[50000:])
	r.batch(t, api.OK)
	if r.t.Drawn() != 904+16*8 || r.st.Pool.Objects[0].Name != sixteen("x") || r.st.Pool.Objects[1].Name != longTape[50000:50016] {
		t.Errorf("%d bytes were drawn; %q", r.t.Drawn(), r.st.Pool.Objects[0].Name)
	}
	r.takeUp(t, api.OK)
	r.whole(t)
	r.setTape(t, strings.Repeat(sixteen("x"), 100))
	calls := r.w.Calls()
	r.batch(t, api.ErrEntropy)
	if r.w.Calls() != calls {
		t.Error("a call behind ErrEntropy")
	}
	r.setTape(t, taken[0]+taken[1]+longTape[60000:])
	r.batch(t, api.OK) // the names that the last batch has given up are nobody's
	if r.t.Drawn() != 904 {
		t.Errorf("%d bytes were drawn", r.t.Drawn())
	}
}

// TestCoinsAreDrawnAgain: by the ideal sealer's word, and where the call's own coins have their last sixteen bytes.
func TestCoinsAreDrawnAgain(t *testing.T) {
	r := made(t, six())
	stale := r.objects()[r.st.Pool.Objects[3].Name]
	names, rest := longTape[70000:70064], longTape[80000:]
	first, twice := rest[:56], "other bytes ahead"+strings.Repeat(".", 56-17-16)+rest[40:56]
	page := strings.Repeat("p", 280) + rest[40:56]
	r.setTape(t, names+stale+first+twice+rest[56:112]+page+rest[112:])
	r.batch(t, api.OK)
	if r.t.Drawn() != 904+56+56+296 {
		t.Errorf("%d bytes were drawn", r.t.Drawn())
	}
	if b := r.objects()[r.st.Pool.Objects[0].Name]; b != first {
		t.Errorf("the first coins: %x", b)
	}
	if b := r.objects()[r.st.Pool.Objects[1].Name]; b != rest[56:112] {
		t.Errorf("the second coins: %x", b)
	}
	if b := r.objects()[r.st.Root.Pages[0].Name]; b != rest[112:112+296] {
		t.Errorf("the third coins: %x", b)
	}
	r.whole(t)
}

// TestCoinsOfTheRealSealer: they are 24 bytes each, and no two have one last sixteen bytes.
func TestCoinsOfTheRealSealer(t *testing.T) {
	r := blank(t, six())
	r.s = mustReal(t, master)
	names := longTape[:7*16]
	r.setTape(t, names+"12345678"+sixteen("c")+"87654321"+sixteen("c")+longTape[1000:])
	r.format(t, api.OK)
	if r.t.Drawn() != 7*16+9*24 {
		t.Errorf("%d bytes were drawn", r.t.Drawn())
	}
	puts := r.w.Trace()[1:]
	if puts[0].Blob[:24] != "12345678"+sixteen("c") || puts[1].Blob[:24] != longTape[1000:1024] || puts[7].Blob[:24] != longTape[1144:1168] {
		t.Error("other coins than those of the tape")
	}
	r.takeUp(t, api.OK)
	r.batch(t, api.OK, create("/f"), write("/f", 0, "x"))
	if r.t.Drawn() != 7*16+9*24+4*16+5*24 {
		t.Errorf("%d bytes were drawn", r.t.Drawn())
	}
	if held := r.whole(t); !reflect.DeepEqual(held, map[string]string{"/f": "file x"}) {
		t.Errorf("the vault holds %q", held)
	}
}

// spy notes what is sealed, and how many store calls were made by then.
type spy struct {
	seal.Sealer
	w     *world.World
	kinds []int
	names []string
	calls []int
}

func (s *spy) Seal(kind int, name, text, coins string) (string, api.Errno) {
	s.kinds, s.names, s.calls = append(s.kinds, kind), append(s.names, name), append(s.calls, s.w.Calls())
	return s.Sealer.Seal(kind, name, text, coins)
}

func TestAllIsSealedFirst(t *testing.T) {
	r := blank(t, six())
	r.w.Put("a", "x")
	s := &spy{Sealer: r.s, w: r.w}
	r.s = s
	r.format(t, api.OK)
	if !slices.Equal(s.kinds, []int{1, 1, 1, 1, 1, 2, 2, 3}) || !slices.Equal(s.calls, slices.Repeat([]int{3}, 8)) {
		t.Errorf("Format seals %v behind %v calls", s.kinds, s.calls)
	}
	r.takeUp(t, api.OK)
	if want := append(plainNames(r.st), api.RootName); !slices.Equal(s.names, want) {
		t.Errorf("Format seals under %q, want %q", s.names, want)
	}
	*s = spy{Sealer: s.Sealer, w: r.w}
	from := r.w.Calls()
	r.batch(t, api.OK, create("/f"), create("/g"))
	if !slices.Equal(s.kinds, []int{1, 1, 2, 2, 3}) || !slices.Equal(s.calls, slices.Repeat([]int{from + 2}, 5)) {
		t.Errorf("Batch seals %v behind %v calls", s.kinds, s.calls)
	}
	*s = spy{Sealer: s.Sealer, w: r.w}
	r.w.Plan(api.Edit{Before: r.w.Calls() + 1, Kind: api.EditRestore, From: 0})
	r.batch(t, api.ErrTampered)
	if len(s.kinds) != 0 {
		t.Errorf("a batch that is given up at its Gets seals %v", s.kinds)
	}
}

// P17.3

// forge is a vault that is laid by hand, with the sealer's own word: what a Recover must look at may be wrong in it.
type forge struct {
	r      *rig
	at     int               // how much of the tape was taken for coins
	blobs  map[string]string // the store
	root   api.Root
	bodies []string // of the pages
	tag    string   // of the root
}

// newForge is a vault with a directory and a file in it, as it was left.
func newForge(t *testing.T) *forge {
	t.Helper()
	r := made(t, six())
	r.batch(t, api.OK, mkdir("/d"), create("/d/f"))
	r.batch(t, api.OK, write("/d/f", 0, "grain"))
	f := &forge{r: r, at: 50000, blobs: r.objects(), root: copyOf(r.st).Root, tag: r.w.Kept().Current}
	bodies, e := index.Encode(r.c, r.st.Tree, r.st.Pool)
	if e != api.OK {
		t.Fatalf("index.Encode: %d", e)
	}
	f.bodies = bodies
	return f
}

// seal is a blob of a text under the kind and the name, whatever they are.
func (f *forge) seal(t *testing.T, kind int, name, text string) string {
	t.Helper()
	n := f.r.s.Coins(len(text))
	b, e := f.r.s.Seal(kind, name, text, longTape[f.at:f.at+n])
	if e != api.OK {
		t.Fatalf("Seal: %d", e)
	}
	f.at += n
	return b
}

// layPage lays a text as a page's object, and its tag into the root.
func (f *forge) layPage(t *testing.T, i, kind int, name, text string) {
	t.Helper()
	b := f.seal(t, kind, name, text)
	f.blobs[f.root.Pages[i].Name], f.root.Pages[i].Tag = b, plainTag(b)
}

// layState lays all pages, and the root.
func (f *forge) layState(t *testing.T, x api.TreeState, p api.PoolState) {
	t.Helper()
	bodies, e := index.Encode(f.r.c, x, p)
	if e != api.OK {
		t.Fatalf("index.Encode: %d", e)
	}
	for i, body := range bodies {
		f.layPage(t, i, api.KindPage, f.root.Pages[i].Name, plainPack(api.KindPage, body, 256))
	}
	f.layRoot(t)
}

func (f *forge) layRoot(t *testing.T) {
	t.Helper()
	f.layRootText(t, api.KindRoot, api.RootName, plainPack(api.KindRoot, f.rootBody(t), 96))
}

func (f *forge) rootBody(t *testing.T) string {
	t.Helper()
	body, e := index.EncodeRoot(f.r.c, f.root)
	if e != api.OK {
		t.Fatalf("index.EncodeRoot: %d", e)
	}
	return body
}

func (f *forge) layRootText(t *testing.T, kind int, name, text string) {
	t.Helper()
	b := f.seal(t, kind, name, text)
	f.blobs[api.RootName], f.tag = b, plainTag(b)
}

// rig is one whose store is what was laid, with this register.
func (f *forge) rig(t *testing.T, k api.Register) *rig {
	t.Helper()
	var blobs []api.Blob
	for name, blob := range f.blobs {
		blobs = append(blobs, api.Blob{Name: name, Blob: blob})
	}
	return &rig{c: f.r.c, w: mustAdopt(t, blobs, k), bytes: longTape, t: mustTape(t, longTape), s: f.r.s}
}

// wantRefused is that a Recover refuses what was laid behind these calls: it is tampered where a vault has counted, and blank
// where none has.
func (f *forge) wantRefused(t *testing.T, what, calls string) {
	t.Helper()
	other := sixteen("o")
	for _, k := range []api.Register{{Current: f.tag}, {Current: other, Pending: f.tag}, {Current: f.tag, Pending: other}} {
		r := f.rig(t, k)
		st, e := Recover(r.w, r.s, r.c)
		k.Stopped = true
		if e != api.ErrTampered || !reflect.DeepEqual(st, api.State{}) || r.w.Kept() != k || r.calls(0) != calls {
			t.Errorf("%s: %d, %+v, %q", what, e, r.w.Kept(), r.calls(0))
		}
		r.wantStopped(t)
		r = f.rig(t, api.Register{Current: k.Current, Pending: k.Pending})
		r.w.Arm(1 + strings.Count(calls, "G") + strings.Count(calls, "L"))
		if _, e := Recover(r.w, r.s, r.c); e != api.ErrDown || r.w.Kept().Stopped {
			t.Errorf("%s: %d where Stop finds the power off", what, e)
		}
	}
	k := api.Register{Pending: f.tag}
	r := f.rig(t, k)
	st, e := Recover(r.w, r.s, r.c)
	if e != api.ErrBlank || !reflect.DeepEqual(st, api.State{}) || r.w.Kept() != k || r.calls(0) != calls {
		t.Errorf("%s: %d where no vault has counted, %+v, %q", what, e, r.w.Kept(), r.calls(0))
	}
	r.format(t, api.OK)
}

// wantTaken is that a Recover takes what was laid.
func (f *forge) wantTaken(t *testing.T, what string) *rig {
	t.Helper()
	var r *rig
	for _, k := range []api.Register{{Current: sixteen("o"), Pending: f.tag}, {Pending: f.tag}, {Current: f.tag, Pending: f.tag}, {Current: f.tag, Pending: sixteen("o")}, {Current: f.tag}} {
		r = f.rig(t, k)
		st, e := Recover(r.w, r.s, r.c)
		if e != api.OK || r.w.Kept() != (api.Register{Current: f.tag}) || r.calls(0) != "G*GGL" {
			t.Errorf("%s: %d, %+v, %q", what, e, r.w.Kept(), r.calls(0))
		}
		r.st = st
	}
	return r
}

func TestRecoverTakesWhatWasLeft(t *testing.T) {
	f := newForge(t)
	r := f.wantTaken(t, "as it was left")
	if !sameState(r.st, f.r.st) {
		t.Errorf("another state: %+v", r.st)
	}
	r.whole(t)
	f.layState(t, f.r.st.Tree, f.r.st.Pool)
	r = f.wantTaken(t, "the pages and the root sealed anew")
	r.setTape(t, longTape[90000:])
	if l := r.batch(t, api.OK, read("/d/f")); l[0].Data != "grain" {
		t.Errorf("%+v", l)
	}
}

// TestRecoverCounts: how many calls of the world it makes, the register's among them.
func TestRecoverCounts(t *testing.T) {
	for _, x := range []struct {
		pending, current bool
		calls            int
	}{
		{false, true, 5}, {true, true, 6}, {true, false, 6},
	} {
		for _, missing := range []int{1, 0} {
			f := newForge(t)
			k := api.Register{}
			if x.current {
				k.Current = f.tag
			}
			if x.pending {
				k.Pending = sixteen("o")
			}
			if !x.current {
				k.Pending = f.tag
			}
			r := f.rig(t, k)
			r.w.Arm(x.calls - missing)
			_, e := Recover(r.w, r.s, r.c)
			if missing == 0 && e != api.OK || missing == 1 && e != api.ErrDown || !r.w.Down() {
				t.Errorf("%+v: %d of the calls are missing: %d", k, missing, e)
			}
		}
	}
}

// TestRecoverSettlesAheadOfTheList: Commit and Forget come ahead of it, the Deletes behind it.
func TestRecoverSettlesAheadOfTheList(t *testing.T) {
	f := newForge(t)
	f.blobs["more"] = "x"
	for _, k := range []api.Register{{Current: sixteen("o"), Pending: f.tag}, {Current: f.tag, Pending: sixteen("o")}} {
		for fuse := range 8 {
			r := f.rig(t, k)
			r.w.Arm(fuse)
			_, e := Recover(r.w, r.s, r.c)
			settled := r.w.Kept() == api.Register{Current: f.tag}
			_, there := r.objects()["more"]
			if (e == api.OK) != (fuse >= 7) || settled != (fuse >= 5) || there != (fuse < 7) || strings.Contains(r.calls(0), "L") != (fuse >= 6) {
				t.Errorf("fuse %d: %d, %+v, %q", fuse, e, r.w.Kept(), r.calls(0))
			}
		}
	}
}

func TestRecoverWithoutAVault(t *testing.T) {
	for i, x := range []struct {
		k    api.Register
		want api.Errno
	}{
		{api.Register{}, api.ErrBlank},
		{api.Register{Stopped: true}, api.ErrTampered},
		{api.Register{Pending: sixteen("p"), Stopped: true}, api.ErrTampered},
		{api.Register{Current: sixteen("p"), Stopped: true}, api.ErrTampered},
	} {
		f := newForge(t)
		r := f.rig(t, x.k)
		r.takeUp(t, x.want)
		if r.w.Calls() != 0 || r.w.Kept() != x.k {
			t.Errorf("row %d: %d calls, %+v", i, r.w.Calls(), r.w.Kept())
		}
		r.w.Arm(0)
		r.takeUp(t, api.ErrDown)
	}
}

func TestRecoverRefusesTheRoot(t *testing.T) {
	good := newForge(t).rootBody(t)
	for _, x := range []struct {
		what string
		lay  func(f *forge)
	}{
		{"no root", func(f *forge) { delete(f.blobs, api.RootName) }},
		{"another tag", func(f *forge) { f.tag = sixteen("n") }},
		{"an empty root", func(f *forge) { f.blobs[api.RootName] = "" }},
		{"fifteen bytes", func(f *forge) { f.blobs[api.RootName] = f.tag[1:] }},
		{"the tag alone", func(f *forge) { f.blobs[api.RootName] = f.tag }},
		{"another byte ahead of the tag", func(f *forge) {
			b := []byte(f.blobs[api.RootName])
			b[0] ^= 1
			f.blobs[api.RootName] = string(b)
		}},
		{"a byte more ahead of it", func(f *forge) { f.blobs[api.RootName] = "x" + f.blobs[api.RootName] }},
		{"sealed as a page", func(f *forge) { f.layRootText(t, api.KindPage, api.RootName, plainPack(api.KindRoot, good, 96)) }},
		{"sealed as data", func(f *forge) { f.layRootText(t, api.KindData, api.RootName, plainPack(api.KindRoot, good, 96)) }},
		{"sealed under another name", func(f *forge) { f.layRootText(t, api.KindRoot, "rooT", plainPack(api.KindRoot, good, 96)) }},
		{"no frame", func(f *forge) { f.layRootText(t, api.KindRoot, api.RootName, "") }},
		{"a page's frame", func(f *forge) { f.layRootText(t, api.KindRoot, api.RootName, plainPack(api.KindPage, good, 96)) }},
		{"a frame with something behind it", func(f *forge) {
			f.layRootText(t, api.KindRoot, api.RootName, plainPack(api.KindRoot, good, 96)+"x")
		}},
		{"a frame that is not all there", func(f *forge) {
			f.layRootText(t, api.KindRoot, api.RootName, plainPack(api.KindRoot, good, 96)[:95])
		}},
		{"a body that is too short", func(f *forge) {
			f.layRootText(t, api.KindRoot, api.RootName, plainPack(api.KindRoot, good[:90], 96))
		}},
		{"a body of something else", func(f *forge) {
			f.layRootText(t, api.KindRoot, api.RootName, plainPack(api.KindRoot, "S"+good[1:], 96))
		}},
		{"a configuration that may not be", func(f *forge) {
			f.layRootText(t, api.KindRoot, api.RootName, plainPack(api.KindRoot, good[:4]+"\x00"+good[5:], 96))
		}},
	} {
		f := newForge(t)
		x.lay(f)
		f.wantRefused(t, x.what, "G*")
	}
}

// TestRecoverOfNeitherTag: a root that opens and says the right things counts by its tag alone.
func TestRecoverOfNeitherTag(t *testing.T) {
	f := newForge(t)
	for _, k := range []api.Register{{Current: sixteen("a")}, {Current: sixteen("a"), Pending: sixteen("b")}} {
		r := f.rig(t, k)
		r.takeUp(t, api.ErrTampered)
		r.wantCalls(t, 0, "G*")
		r.wantStopped(t)
	}
	r := f.rig(t, api.Register{Pending: sixteen("a")})
	r.takeUp(t, api.ErrBlank)
	r.wantCalls(t, 0, "G*")
	// A blob without a tag is not one for a register that has none.
	f.blobs[api.RootName] = "short"
	r = f.rig(t, api.Register{Pending: sixteen("a")})
	r.takeUp(t, api.ErrBlank)
	r = f.rig(t, api.Register{Current: sixteen("a")})
	r.takeUp(t, api.ErrTampered)
}

func TestRecoverOfAnotherConfiguration(t *testing.T) {
	for i, change := range []func(c *api.Config){
		func(c *api.Config) { c.Slots = 3 }, func(c *api.Config) { c.Files = 4 }, func(c *api.Config) { c.Dirs = 1 },
		func(c *api.Config) { c.MaxFile = 99 }, func(c *api.Config) { c.Least = 17 }, func(c *api.Config) { c.Page = 257 },
	} {
		f := newForge(t)
		for _, k := range []api.Register{{Current: f.tag}, {Pending: f.tag}, {Current: sixteen("o"), Pending: f.tag}, {Current: f.tag, Pending: sixteen("o")}} {
			r := f.rig(t, k)
			change(&r.c)
			r.takeUp(t, api.ErrConfig)
			r.wantCalls(t, 0, "G*")
			if r.w.Kept() != k {
				t.Errorf("row %d: the register %+v, was %+v", i, r.w.Kept(), k)
			}
			r.c = six()
			r.takeUp(t, api.OK)
		}
	}
}

func TestRecoverTakesFramesOfAnySize(t *testing.T) {
	f := newForge(t)
	for i, body := range f.bodies {
		f.layPage(t, i, api.KindPage, f.root.Pages[i].Name, plainPack(api.KindPage, body, 300+i))
	}
	f.layRootText(t, api.KindRoot, api.RootName, plainPack(api.KindRoot, f.rootBody(t), 1000))
	r := f.wantTaken(t, "longer frames")
	if !sameState(r.st, api.State{Tree: f.r.st.Tree, Pool: f.r.st.Pool, Root: f.root}) {
		t.Errorf("another state: %+v", r.st)
	}
}

func TestRecoverRefusesAPage(t *testing.T) {
	for page, calls := range []string{"G*G", "G*GG"} {
		for _, x := range []struct {
			what string
			lay  func(f *forge, name, body string)
		}{
			{"no page", func(f *forge, name, body string) { delete(f.blobs, name) }},
			{"an empty page", func(f *forge, name, body string) { f.blobs[name] = "" }},
			{"another tag", func(f *forge, name, body string) {
				f.blobs[name] = f.seal(t, api.KindPage, name, plainPack(api.KindPage, body, 256))
			}},
			{"another byte ahead of the tag", func(f *forge, name, body string) { f.blobs[name] = "x" + f.blobs[name][1:] }},
			{"the other page", func(f *forge, name, body string) { f.blobs[name] = f.blobs[f.root.Pages[1-page].Name] }},
			{"sealed as data", func(f *forge, name, body string) {
				f.layPage(t, page, api.KindData, name, plainPack(api.KindPage, body, 256))
			}},
			{"sealed as a root", func(f *forge, name, body string) {
				f.layPage(t, page, api.KindRoot, name, plainPack(api.KindPage, body, 256))
			}},
			{"sealed under another name", func(f *forge, name, body string) {
				f.layPage(t, page, api.KindPage, sixteen("n"), plainPack(api.KindPage, body, 256))
			}},
			{"no frame", func(f *forge, name, body string) { f.layPage(t, page, api.KindPage, name, "") }},
			{"a root's frame", func(f *forge, name, body string) {
				f.layPage(t, page, api.KindPage, name, plainPack(api.KindRoot, body, 256))
			}},
			{"a frame with something behind it", func(f *forge, name, body string) {
				f.layPage(t, page, api.KindPage, name, plainPack(api.KindPage, body, 256)+"\x00x")
			}},
		} {
			f := newForge(t)
			x.lay(f, f.root.Pages[page].Name, f.bodies[page])
			f.layRoot(t)
			f.wantRefused(t, x.what, calls)
		}
	}
}

func TestRecoverRefusesWhatThePagesSay(t *testing.T) {
	changed := func(body string, at int) string {
		b := []byte(body)
		b[at] ^= 2
		return string(b)
	}
	for _, x := range []struct {
		what string
		lay  func(f *forge)
	}{
		{"a page that is too long", func(f *forge) { f.bodies[0] += "\x00" }},
		{"a page that is too short", func(f *forge) { f.bodies[1] = f.bodies[1][1:] }},
		{"a byte behind the image", func(f *forge) { f.bodies[1] = changed(f.bodies[1], 250) }},
		{"a node's mark", func(f *forge) { f.bodies[0] = changed(f.bodies[0], 0) }},
		{"the pages in another order", func(f *forge) { f.bodies[0], f.bodies[1] = f.bodies[1], f.bodies[0] }},
	} {
		f := newForge(t)
		x.lay(f)
		for i, body := range f.bodies {
			f.layPage(t, i, api.KindPage, f.root.Pages[i].Name, plainPack(api.KindPage, body, 300))
		}
		f.layRoot(t)
		f.wantRefused(t, x.what, "G*GG")
	}
	for _, x := range []struct {
		what string
		turn func(st *api.State)
	}{
		{"a loop", func(st *api.State) {
			st.Tree.Nodes = []api.Node{{Kind: api.IsDir, Number: 1, Parent: 2, Name: "a"}, {Kind: api.IsDir, Number: 2, Parent: 1, Name: "b"}}
		}},
		{"a parent that is not there", func(st *api.State) { st.Tree.Nodes[1].Parent = 2 }},
		{"a dummy that is queued twice", func(st *api.State) { st.Pool.Queue[0] = st.Pool.Queue[1] }},
		{"a file's row that is queued", func(st *api.State) { st.Pool.Queue = []int{0, 1, 2, 3, 4} }},
		{"two rows with one name", func(st *api.State) { st.Pool.Objects[0].Name = st.Pool.Objects[1].Name }},
	} {
		f := newForge(t)
		st := copyOf(f.r.st)
		x.turn(&st)
		f.layState(t, st.Tree, st.Pool)
		f.wantRefused(t, x.what, "G*GG")
	}
}

// TestRecoverDoesNotAskForMore: whether tree and table fit each other is a batch's question, and the objects' blobs are too.
func TestRecoverDoesNotAskForMore(t *testing.T) {
	f := newForge(t)
	st := copyOf(f.r.st)
	st.Tree.Nodes = st.Tree.Nodes[:1]
	f.layState(t, st.Tree, st.Pool)
	for _, o := range st.Pool.Objects {
		f.blobs[o.Name] = "x"
	}
	r := f.wantTaken(t, "a file that is in the table alone")
	calls := r.w.Calls()
	r.batch(t, api.ErrPool, list("/"), list("/"), list("/"))
	if r.w.Calls() != calls || r.t.Drawn() != 0 || r.w.Kept().Stopped {
		t.Errorf("%d calls behind ErrPool", r.w.Calls()-calls)
	}
}

// TestRecoverMissesAnObject: each of the state's names must be in the list, and the root's: only there the adversary can
// take a page or the root away unseen by the Gets.
func TestRecoverMissesAnObject(t *testing.T) {
	for i := range 5 {
		f := newForge(t)
		delete(f.blobs, f.r.st.Pool.Objects[i].Name)
		f.blobs["more"] = "x"
		for _, k := range []api.Register{{Current: f.tag}, {Pending: f.tag}, {Current: f.tag, Pending: sixteen("o")}} {
			r := f.rig(t, k)
			r.takeUp(t, api.ErrTampered)
			r.wantCalls(t, 0, "G*GGL")
			if r.w.Kept() != (api.Register{Current: f.tag, Stopped: true}) {
				t.Errorf("row %d: the register %+v", i, r.w.Kept())
			}
			r.wantStopped(t)
		}
	}
	for _, put := range []int{11, 10, 12} { // a batch's pages and its root
		r := made(t, six())
		r.batch(t, api.OK)
		from := r.w.Calls()
		r.w.Plan(api.Edit{Before: from + 3, Kind: api.EditDrop, Put: put})
		r.takeUp(t, api.ErrTampered)
		r.wantCalls(t, from, "G*GGL")
		r.wantStopped(t)
	}
}

// P17.4

func TestBatchRefusesAState(t *testing.T) {
	three := make([]api.Op, 3)
	loop := []api.Node{{Kind: api.IsDir, Number: 1, Parent: 2, Name: "a"}, {Kind: api.IsDir, Number: 2, Parent: 1, Name: "b"}}
	long := func(st *api.State) { st.Tree.Nodes[1].Size = 101 }
	short := func(st *api.State) { st.Pool.Objects[4].Tag = "short" }
	other := func(st *api.State) { st.Root.Config.Page = 257 }
	few := func(st *api.State) { st.Root.Pages = st.Root.Pages[:1] }
	circle := func(st *api.State) { st.Tree.Nodes = loop }
	twice := func(st *api.State) { st.Pool.Queue = []int{0, 0, 1, 2} }
	alone := func(st *api.State) { st.Tree.Nodes = st.Tree.Nodes[:1] }
	for i, x := range []struct {
		want  api.Errno
		turns []func(st *api.State)
	}{
		{api.ErrTree, []func(st *api.State){func(st *api.State) { *st = api.State{} }}},
		{api.ErrTree, []func(st *api.State){func(st *api.State) { st.Tree.Files = 4 }}},
		{api.ErrTree, []func(st *api.State){func(st *api.State) { st.Tree.Nodes[0].Name = "" }}},
		{api.ErrTree, []func(st *api.State){long, short, other, few, twice}},
		{api.ErrPool, []func(st *api.State){func(st *api.State) { st.Pool = api.PoolState{} }}},
		{api.ErrPool, []func(st *api.State){func(st *api.State) { st.Pool.Objects[0].Owner = 3 }}},
		{api.ErrPool, []func(st *api.State){func(st *api.State) { st.Pool.Objects[0].Name = "" }}},
		{api.ErrPool, []func(st *api.State){short, other, few, circle, twice}},
		{api.ErrConfig, []func(st *api.State){other, few, circle, twice}},
		{api.ErrIndex, []func(st *api.State){few, circle, twice}},
		{api.ErrIndex, []func(st *api.State){func(st *api.State) { st.Root.Pages = nil }}},
		{api.ErrIndex, []func(st *api.State){func(st *api.State) { st.Root.Pages[1].Name = "" }}},
		{api.ErrIndex, []func(st *api.State){func(st *api.State) { st.Root.Pages[1].Tag = sixteen("t") + "t" }}},
		{api.ErrTree, []func(st *api.State){circle, twice}},
		{api.ErrPool, []func(st *api.State){twice, alone}},
		{api.ErrPool, []func(st *api.State){alone}},
		{api.ErrPool, []func(st *api.State){func(st *api.State) { st.Pool.Objects[0].Owner, st.Pool.Queue = 2, st.Pool.Queue[:3] }}},
		{api.ErrBatch, nil},
	} {
		f := newForge(t)
		r := f.r
		calls, drawn := r.w.Calls(), r.t.Drawn()
		for _, turn := range x.turns {
			turn(&r.st)
		}
		r.w.Arm(1)
		st, l, e := Batch(r.w, r.t, r.s, r.c, r.st, three)
		if e != x.want || !reflect.DeepEqual(st, api.State{}) || len(l) != 0 {
			t.Errorf("row %d: %d, want %d", i, e, x.want)
		}
		if r.w.Calls() != calls || r.t.Drawn() != drawn || r.t.Left() == 0 || r.w.Down() {
			t.Errorf("row %d: %d calls", i, r.w.Calls()-calls)
		}
	}
}

// slotForge is a vault whose next batch touches a dummy in its slot 0 and the file /d/f, which has "grain", in its slot 1.
func slotForge(t *testing.T) (*forge, []api.Op, []int) {
	t.Helper()
	f := newForge(t)
	row := slices.IndexFunc(f.r.st.Pool.Objects, func(o api.Object) bool { return o.Owner == 0 })
	return f, []api.Op{stat("/"), read("/d/f")}, []int{f.r.st.Pool.Queue[0], row}
}

// layRow lays a text as a row's object, and its tag into the state.
func (f *forge) layRow(t *testing.T, row, kind int, name, text string) {
	t.Helper()
	b := f.seal(t, kind, name, text)
	f.blobs[f.r.st.Pool.Objects[row].Name], f.r.st.Pool.Objects[row].Tag = b, plainTag(b)
}

func TestBatchLooksAtEachObject(t *testing.T) {
	for slot, calls := range []string{"G", "GG"} {
		for _, x := range []struct {
			what string
			lay  func(f *forge, row int, name, body string)
		}{
			{"no object", func(f *forge, row int, name, body string) { delete(f.blobs, name) }},
			{"an empty object", func(f *forge, row int, name, body string) { f.blobs[name] = "" }},
			{"its tag alone", func(f *forge, row int, name, body string) { f.blobs[name] = plainTag(f.blobs[name]) }},
			{"a byte of it", func(f *forge, row int, name, body string) { f.blobs[name] = "x" + f.blobs[name][1:] }},
			{"a byte of its tag", func(f *forge, row int, name, body string) {
				f.blobs[name] = f.blobs[name][:55] + string(f.blobs[name][55]^1)
			}},
			{"a byte more", func(f *forge, row int, name, body string) { f.blobs[name] = "x" + f.blobs[name] }},
			{"a byte less", func(f *forge, row int, name, body string) { f.blobs[name] = f.blobs[name][1:] }},
			{"another row's object", func(f *forge, row int, name, body string) {
				f.blobs[name] = f.blobs[f.r.st.Pool.Objects[(row+1)%5].Name]
			}},
			{"another tag", func(f *forge, row int, name, body string) {
				f.blobs[name] = f.seal(t, api.KindData, name, plainPack(api.KindData, body, 16))
			}},
			{"the row's tag is another one", func(f *forge, row int, name, body string) { f.r.st.Pool.Objects[row].Tag = sixteen("t") }},
			{"sealed as a page", func(f *forge, row int, name, body string) {
				f.layRow(t, row, api.KindPage, name, plainPack(api.KindData, body, 16))
			}},
			{"sealed under another name", func(f *forge, row int, name, body string) {
				f.layRow(t, row, api.KindData, api.RootName, plainPack(api.KindData, body, 16))
			}},
			{"no frame", func(f *forge, row int, name, body string) { f.layRow(t, row, api.KindData, name, body) }},
			{"a page's frame", func(f *forge, row int, name, body string) {
				f.layRow(t, row, api.KindData, name, plainPack(api.KindPage, body, 16))
			}},
			{"a frame with something behind it", func(f *forge, row int, name, body string) {
				f.layRow(t, row, api.KindData, name, plainPack(api.KindData, body, 16)+"x")
			}},
			{"a longer body", func(f *forge, row int, name, body string) {
				f.layRow(t, row, api.KindData, name, plainPack(api.KindData, body+"x", 16))
			}},
			{"a body of another length", func(f *forge, row int, name, body string) {
				f.layRow(t, row, api.KindData, name, plainPack(api.KindData, "four", 16))
			}},
		} {
			f, ops, rows := slotForge(t)
			k := api.Register{Current: f.tag}
			x.lay(f, rows[slot], f.r.st.Pool.Objects[rows[slot]].Name, []string{"", "grain"}[slot])
			for _, fuse := range []int{-1, slot + 1} {
				r := f.rig(t, k)
				r.st = f.r.st
				r.setTape(t, longTape[80000:])
				r.w.Arm(fuse)
				if fuse >= 0 {
					r.batch(t, api.ErrDown, ops...)
					r.wantCalls(t, 0, calls)
					continue
				}
				st, l, e := Batch(r.w, r.t, r.s, r.c, r.st, ops)
				k.Stopped = true
				if e != api.ErrTampered || !reflect.DeepEqual(st, api.State{}) || len(l) != 0 || r.calls(0) != calls || r.w.Kept() != k {
					t.Errorf("slot %d, %s: %d, %q, %+v", slot, x.what, e, r.calls(0), r.w.Kept())
				}
				k.Stopped = false
				r.wantStopped(t)
			}
		}
	}
}

// TestBatchTakesFramesOfAnySize: how long an object was laid is nobody's business but the store's; the next one has its
// bucket.
func TestBatchTakesFramesOfAnySize(t *testing.T) {
	f, ops, rows := slotForge(t)
	f.layRow(t, rows[0], api.KindData, f.r.st.Pool.Objects[rows[0]].Name, plainPack(api.KindData, "", 5))
	f.layRow(t, rows[1], api.KindData, f.r.st.Pool.Objects[rows[1]].Name, plainPack(api.KindData, "bread", 500))
	r := f.rig(t, api.Register{Current: f.tag})
	r.st = f.r.st
	r.setTape(t, longTape[80000:])
	if l := r.batch(t, api.OK, ops...); l[1].Data != "bread" {
		t.Errorf("%+v", l)
	}
	r.whole(t)
}

// TestBatchDoesNotLookAtTheRegister: it is a Recover's, and a vault's business not to come here once more.
func TestBatchDoesNotLookAtTheRegister(t *testing.T) {
	for _, k := range []api.Register{{}, {Current: sixteen("a"), Pending: sixteen("b")}, {Stopped: true}} {
		f, ops, _ := slotForge(t)
		r := f.rig(t, k)
		r.st = f.r.st
		r.setTape(t, longTape[80000:])
		r.batch(t, api.OK, ops...)
		r.wantCalls(t, 0, "GGPPPPP*DDDD")
		if is := r.w.Kept(); is.Current != plainTag(r.objects()[api.RootName]) || is.Pending != "" || is.Stopped != k.Stopped {
			t.Errorf("%+v: %+v", k, is)
		}
	}
}

// TestBatchOfAnOlderState does with it just what stands there.
func TestBatchOfAnOlderState(t *testing.T) {
	r := made(t, six())
	old := r.st
	r.batch(t, api.OK)
	r.st = old
	from := r.w.Calls()
	r.batch(t, api.ErrTampered)
	r.wantCalls(t, from, "G")
	r.wantStopped(t)
}

// TestSlotsGoTheirWay: which row each slot reads, puts and deletes, and with which bucket.
func TestSlotsGoTheirWay(t *testing.T) {
	r := made(t, api.Config{Slots: 3, Files: 3, Dirs: 1, MaxFile: 300, Least: 16, Page: 128})
	r.batch(t, api.OK, create("/a"), create("/b"), write("/a", 0, strings.Repeat("a", 200)))
	for i, x := range []struct {
		ops     []api.Op
		buckets []int
		held    map[string]string
	}{
		{[]api.Op{stat("/a"), read("/b"), write("/b", 0, "four")}, []int{16, 16, 16}, map[string]string{"/a": "file " + strings.Repeat("a", 200), "/b": "file four"}},
		{[]api.Op{cut("/a", 20), write("/b", 4, strings.Repeat("b", 96))}, []int{26, 112, 16}, map[string]string{"/a": "file " + strings.Repeat("a", 20), "/b": "file four" + strings.Repeat("b", 96)}},
		{[]api.Op{mkdir("/d"), rename("/a", "/b"), rename("/b", "/d/c")}, []int{16, 16, 16}, map[string]string{"/d": "dir", "/d/c": "file " + strings.Repeat("a", 20)}},
		{[]api.Op{create("/e"), remove("/d/c"), write("/e", 299, "e")}, []int{320, 16, 16}, map[string]string{"/d": "dir", "/e": "file " + strings.Repeat("\x00", 299) + "e"}},
	} {
		ahead, from := copyOf(r.st), r.w.Calls()
		r.batch(t, api.OK, x.ops...)
		m, trace := pagesOf(t, r.c), r.w.Trace()[from:]
		for j := range 3 {
			row := slices.IndexFunc(ahead.Pool.Objects, func(o api.Object) bool { return o.Name == trace[j].Name })
			if row < 0 {
				t.Fatalf("batch %d: the Get %d is of no row", i, j)
			}
			o := r.st.Pool.Objects[row]
			put, gone := trace[3+j], trace[7+m+j]
			if put.Name != o.Name || plainTag(put.Blob) != o.Tag || len(put.Blob) != 40+x.buckets[j] || o.Bucket != x.buckets[j] || gone.Name != trace[j].Name {
				t.Errorf("batch %d, slot %d: %d bytes, the row %+v", i, j, len(put.Blob), o)
			}
		}
		if held := r.whole(t); !reflect.DeepEqual(held, x.held) {
			t.Errorf("batch %d: the vault holds %q", i, held)
		}
	}
}

// P17.5

func TestOneShape(t *testing.T) {
	r := rand.New(rand.NewSource(5))
	for _, c := range []api.Config{six(), least(), {Slots: 64, Files: 2, Dirs: 1, MaxFile: 50, Least: 16, Page: 64}, {Slots: 1, Files: 9, Dirs: 4096, MaxFile: 65536, Least: 65536, Page: 65536}, {Slots: 5, Files: 4, Dirs: 3, MaxFile: 0, Least: 30, Page: 90}} {
		x := blank(t, c)
		x.setTape(t, someBytes(api.MaxTape/8))
		m := pagesOf(t, c)
		x.w.Put("junk", "junk")
		from := x.w.Calls()
		x.w.Arm(5 + c.Files + c.Slots + m + 1)
		x.format(t, api.OK)
		if !x.w.Down() {
			t.Errorf("%+v: Format makes fewer calls", c)
		}
		x.w.Power()
		x.wantCalls(t, from, "LD"+strings.Repeat("P", c.Files+c.Slots+m)+"P*")
		x.takeUp(t, api.OK)
		x.whole(t)
		for range 6 {
			from := x.w.Calls()
			x.w.Arm(3*c.Slots + 2*m + 3)
			x.batch(t, api.OK, someOps(r, c)...)
			if !x.w.Down() {
				t.Errorf("%+v: a batch makes fewer calls", c)
			}
			x.w.Power()
			x.wantCalls(t, from, strings.Repeat("G", c.Slots)+strings.Repeat("P", c.Slots+m)+"P*"+strings.Repeat("D", c.Slots+m))
			x.whole(t)
			from = x.w.Calls()
			st := x.st
			x.takeUp(t, api.OK)
			x.wantCalls(t, from, "G*"+strings.Repeat("G", m)+"L")
			if !sameState(x.st, st) {
				t.Errorf("%+v: Recover answers another state", c)
			}
		}
	}
}

// TestRefusedBatchesMakeNoCall: up to the last draw nothing is done.
func TestRefusedBatchesMakeNoCall(t *testing.T) {
	r := made(t, six())
	ahead, k := r.w.Dump(), r.w.Kept()
	for n := 0; n < 904; n += 7 {
		r.setTape(t, longTape[40000:40000+n])
		r.w.Arm(1)
		r.batch(t, api.ErrEntropy, create("/f"), write("/f", 0, "x"))
		if r.w.Down() || r.t.Left() != 0 {
			t.Fatalf("%d bytes: a call, or %d bytes that are left", n, r.t.Left())
		}
	}
	r.setTape(t, longTape[40000:40903])
	r.batch(t, api.ErrEntropy)
	r.setTape(t, longTape[40000:40904])
	r.batch(t, api.ErrBatch, make([]api.Op, 3)...)
	r.batch(t, api.ErrBatch, make([]api.Op, 1000)...)
	if r.w.Down() || r.t.Drawn() != 0 || !slices.Equal(r.w.Dump(), ahead) || r.w.Kept() != k {
		t.Error("ErrBatch behind a call or a draw")
	}
	r.w.Arm(-1)
	r.batch(t, api.OK, create("/f"), write("/f", 0, "x"))
	if r.t.Left() != 0 {
		t.Errorf("%d bytes are left", r.t.Left())
	}
	r.whole(t)
}

// TestTraceSaysNothingOfTheOperations: over the ideal sealer it is the same, byte by byte, where the slots are.
func TestTraceSaysNothingOfTheOperations(t *testing.T) {
	var traces [][]api.Call
	for _, name := range []string{"/a", "/b"} {
		r := made(t, six())
		r.batch(t, api.OK, mkdir(name), create(name+"/f"))
		r.batch(t, api.OK, write(name+"/f", 1, "h"+name[1:]), read(name+"/f"))
		r.batch(t, api.OK, list("/"), stat(name+"/f"))
		traces = append(traces, r.w.Trace())
	}
	if !slices.EqualFunc(traces[0], traces[1], sameCall) {
		t.Error("the traces are not the same")
	}
}

// TestRealSealer: the same calls over blobs that are sealed for real; another key opens nothing.
func TestRealSealer(t *testing.T) {
	r := blank(t, six())
	r.s = mustReal(t, master)
	r.format(t, api.OK)
	r.takeUp(t, api.OK)
	r.batch(t, api.OK, mkdir("/d"), create("/d/f"))
	from := r.w.Calls()
	l := r.batch(t, api.OK, write("/d/f", 0, "grain"), read("/d/f"))
	r.wantCalls(t, from, "GGPPPPP*DDDD")
	if l[1].Data != "grain" {
		t.Errorf("%+v", l)
	}
	r.takeUp(t, api.OK)
	if held := r.whole(t); !reflect.DeepEqual(held, map[string]string{"/d": "dir", "/d/f": "file grain"}) {
		t.Errorf("the vault holds %q", held)
	}
	for _, b := range r.w.Dump() {
		if strings.Contains(b.Blob, "grain") {
			t.Errorf("%q lies open", b.Blob)
		}
	}
	from = r.w.Calls()
	_, e := Recover(r.w, mustReal(t, strings.Repeat("l", 32)), six())
	if e != api.ErrTampered {
		t.Errorf("another key: %d", e)
	}
	r.wantCalls(t, from, "G*")
	r.wantStopped(t)
}

// TestGreatest: as many rows and pages as may be.
func TestGreatest(t *testing.T) {
	c := api.Config{Slots: 64, Files: api.MaxFiles, Dirs: api.MaxDirs, MaxFile: api.MaxFile, Least: 16, Page: 5600}
	for ; index.Check(c) == api.OK; c.Page-- {
	}
	c.Page++
	m := pagesOf(t, c)
	if m < 1020 {
		t.Fatalf("%d pages are not many", m)
	}
	r := blank(t, c)
	r.setTape(t, someBytes(api.MaxTape/3))
	r.format(t, api.OK)
	r.takeUp(t, api.OK)
	ops := []api.Op{create("/f"), write("/f", 0, strings.Repeat("x", 65536)), write("/f", 65535, "yz"), read("/f")}
	for i := range 59 {
		ops = append(ops, mkdir(fmt.Sprintf("/d%d", i)))
	}
	from := r.w.Calls()
	l := r.batch(t, api.OK, append(ops, list("/"))...)
	if l[2].Code != api.ErrBig || l[3].N != 65536 || len(l[63].Names) != 60 {
		t.Errorf("%d, %d, %d", l[2].Code, l[3].N, len(l[63].Names))
	}
	r.wantCalls(t, from, strings.Repeat("G", 64)+strings.Repeat("P", 64+m)+"P*"+strings.Repeat("D", 64+m))
	r.batch(t, api.ErrBatch, append(ops, ops...)...)
	st := r.st
	r.takeUp(t, api.OK)
	if !sameState(r.st, st) || len(r.w.Dump()) != c.Files+c.Slots+m+1 {
		t.Errorf("%d objects", len(r.w.Dump()))
	}
}

// Some of everything.

func somePath(r *rand.Rand) string {
	names := []string{"/a", "/b", "/c"}
	path := names[r.Intn(len(names))]
	if r.Intn(4) == 0 {
		path += names[r.Intn(2)]
	}
	if r.Intn(50) == 0 {
		return []string{"", "/", "a", "/a//b", "/.."}[r.Intn(5)]
	}
	return path
}

func someOp(r *rand.Rand, most int) api.Op {
	kinds := []int{api.OpCreate, api.OpCreate, api.OpCreate, api.OpWrite, api.OpWrite, api.OpCut, api.OpRead, api.OpRename, api.OpRemove, 1 + r.Intn(10), r.Intn(14) - 1}
	op := api.Op{Kind: kinds[r.Intn(len(kinds))], Path: somePath(r), To: somePath(r), At: r.Intn(most + 2), N: r.Intn(most + 2)}
	op.Data = strings.Repeat(string(rune('a'+r.Intn(26))), r.Intn(most+2))
	if r.Intn(3) > 0 {
		op.At = 0
	}
	return op
}

func someOps(r *rand.Rand, c api.Config) []api.Op {
	var ops []api.Op
	for range r.Intn(c.Slots + 1) {
		ops = append(ops, someOp(r, c.MaxFile))
	}
	return ops
}

func someConfig(r *rand.Rand) api.Config {
	return api.Config{Slots: 1 + r.Intn(3), Files: 1 + r.Intn(4), Dirs: r.Intn(3), MaxFile: r.Intn(80), Least: 16 + r.Intn(30), Page: 64 + r.Intn(300)}
}

// someEdit is one of the adversary's, ahead of one of the next store calls.
func someEdit(r *rand.Rand, w *world.World, ahead int) api.Edit {
	calls := w.Calls()
	e := api.Edit{Before: calls + r.Intn(ahead), Kind: 1 + r.Intn(6), Put: r.Intn(calls + 5), From: r.Intn(calls + 5)}
	e.Name = []string{"x", api.RootName, sixteen("y")}[r.Intn(3)]
	e.Blob = strings.Repeat("z", r.Intn(70))
	if d := w.Dump(); len(d) > 0 && r.Intn(2) == 0 {
		e.Name, e.Blob = d[r.Intn(len(d))].Name, d[r.Intn(len(d))].Blob
	}
	return e
}

// againAndAgain is a tape on which names and tags come again: it is made of a few pieces of eight bytes.
func againAndAgain(r *rand.Rand, n int) string {
	pieces := make([]string, 5+r.Intn(20))
	for i := range pieces {
		pieces[i] = fmt.Sprintf("%08d", r.Intn(100000000))
	}
	var b strings.Builder
	for b.Len() < n {
		b.WriteString(pieces[r.Intn(len(pieces))])
	}
	return b.String()
}

// The document's words done once more, in step with the program.

// pair is two rigs to which the same is done: on one the program works, on the other the words.
type pair struct {
	is, want *rig
	past     []api.State
	count    drawn
	codes    map[api.Errno]int
	edits    int
}

func newPair(t *testing.T, r *rand.Rand) *pair {
	t.Helper()
	c, bytes := someConfig(r), someBytes(4000+r.Intn(30000))
	if r.Intn(2) == 0 {
		bytes = againAndAgain(r, 4000+r.Intn(30000))
	}
	p := &pair{codes: map[api.Errno]int{}}
	for _, x := range []**rig{&p.is, &p.want} {
		*x = &rig{c: c, w: world.New(), bytes: bytes, t: mustTape(t, bytes), s: mustIdeal(t, nil)}
	}
	if r.Intn(3) == 0 {
		p.is.s, p.want.s = mustReal(t, master), mustReal(t, master)
	}
	return p
}

func (p *pair) compare(t *testing.T, what string, is, want api.Errno) {
	t.Helper()
	a, b := p.is, p.want
	if is != want {
		t.Fatalf("%s: %d, want %d", what, is, want)
	}
	if !slices.EqualFunc(a.w.Trace(), b.w.Trace(), sameCall) || a.w.Kept() != b.w.Kept() || a.w.Down() != b.w.Down() || !slices.Equal(a.w.Dump(), b.w.Dump()) {
		t.Fatalf("%s: another trace, register or store: %q, want %q", what, a.calls(0), b.calls(0))
	}
	if a.t.Drawn() != b.t.Drawn() || a.t.Left() != b.t.Left() {
		t.Fatalf("%s: %d bytes were drawn, want %d", what, a.t.Drawn(), b.t.Drawn())
	}
	if s, ok := a.s.(*seal.Ideal); ok && !slices.Equal(s.Table(), b.s.(*seal.Ideal).Table()) {
		t.Fatalf("%s: another table of the sealer", what)
	}
	p.codes[is]++
}

func (p *pair) step(t *testing.T, r *rand.Rand) {
	t.Helper()
	a, b := p.is, p.want
	switch r.Intn(8) {
	case 0:
		e := Format(a.w, a.t, a.s, a.c)
		p.compare(t, "Format", e, plainFormat(b.w, b.t, b.s, b.c, &p.count))
	case 1, 2:
		c := a.c
		if r.Intn(30) == 0 {
			c.Least++
		}
		st, e := Recover(a.w, a.s, c)
		want, f := plainRecover(b.w, b.s, c)
		if !sameState(st, want) {
			t.Fatalf("Recover: %+v, want %+v", st, want)
		}
		p.compare(t, "Recover", e, f)
		if e == api.OK {
			p.past = append(p.past, st)
		}
	case 3, 4, 5:
		p.batch(t, r)
	case 6:
		if k := r.Intn(60); r.Intn(3) == 0 {
			a.w.Arm(k)
			b.w.Arm(k)
		}
		if r.Intn(2) == 0 {
			a.w.Power()
			b.w.Power()
		}
	case 7:
		if r.Intn(12) == 0 {
			e := someEdit(r, a.w, 20)
			a.w.Plan(e)
			b.w.Plan(e)
			p.edits++
		}
	}
}

func (p *pair) batch(t *testing.T, r *rand.Rand) {
	t.Helper()
	a, b := p.is, p.want
	var st api.State
	if len(p.past) > 0 {
		st = p.past[len(p.past)-1]
		if r.Intn(40) == 0 {
			st = p.past[r.Intn(len(p.past))]
		}
	}
	ops := someOps(r, a.c)
	if r.Intn(40) == 0 {
		ops = make([]api.Op, a.c.Slots+1)
	}
	is, l, e := Batch(a.w, a.t, a.s, a.c, st, ops)
	want, m, f := plainBatch(b.w, b.t, b.s, b.c, copyOf(st), ops, &p.count)
	if !sameState(is, want) || !sameResults(l, m) {
		t.Fatalf("Batch: %+v, %+v, want %+v, %+v", is, l, want, m)
	}
	p.compare(t, "Batch", e, f)
	if e == api.OK {
		p.past = append(p.past, is)
	}
}

func TestInStepWithTheWords(t *testing.T) {
	r := rand.New(rand.NewSource(17))
	codes, again := map[api.Errno]int{}, drawn{}
	for range 400 {
		p := newPair(t, r)
		if k := r.Intn(20); r.Intn(3) == 0 {
			p.is.w.Arm(k)
			p.want.w.Arm(k)
		}
		p.compare(t, "Format", Format(p.is.w, p.is.t, p.is.s, p.is.c), plainFormat(p.want.w, p.want.t, p.want.s, p.want.c, &p.count))
		for range 40 {
			p.step(t, r)
		}
		for e, n := range p.codes {
			codes[e] += n
		}
		again.names, again.coins = again.names+p.count.names, again.coins+p.count.coins
	}
	for _, e := range []api.Errno{api.OK, api.ErrEntropy, api.ErrDown, api.ErrConfig, api.ErrBatch, api.ErrTampered, api.ErrBlank, api.ErrVault} {
		if codes[e] < 10 {
			t.Errorf("the error %d came up %d times: too few to say something", e, codes[e])
		}
	}
	if codes[api.OK] < 1000 || again.names < 500 || again.coins < 500 {
		t.Errorf("%d calls, %d names and %d coins drawn again: too few to say something", codes[api.OK], again.names, again.coins)
	}
}

// P17.6

// filled is a vault that holds some, over either sealer.
func filled(t *testing.T, real bool) *rig {
	t.Helper()
	r := blank(t, six())
	if real {
		r.s = mustReal(t, master)
	}
	r.format(t, api.OK)
	r.takeUp(t, api.OK)
	r.batch(t, api.OK, mkdir("/d"), create("/d/f"))
	r.batch(t, api.OK, write("/d/f", 0, "grain"), create("/g"))
	r.batch(t, api.OK, write("/g", 0, strings.Repeat("g", 60)))
	return r
}

func someBatches() [][]api.Op {
	return [][]api.Op{
		nil,
		{mkdir("/e")},
		{write("/d/f", 2, strings.Repeat("x", 50)), cut("/g", 1)},
		{remove("/g"), create("/h")},
		{rename("/g", "/d/f"), write("/d/f", 0, "new")},
		{read("/g"), {Kind: 99}},
	}
}

// TestOldOrNew: the power goes off at each place of a batch, and at each place of the Recover behind it.
func TestOldOrNew(t *testing.T) {
	olds, news := 0, 0
	for _, real := range []bool{false, true} {
		for i, ops := range someBatches() {
			start := filled(t, real)
			next := start.twin(t)
			next.batch(t, api.OK, ops...)
			ahead, behind := start.whole(t), next.whole(t)
			for fuse := range 14 {
				for again := range 11 {
					r := start.twin(t)
					r.w.Arm(fuse)
					want := api.ErrDown
					if fuse >= 13 {
						want = api.OK
					}
					r.batch(t, want, ops...)
					r.w.Power()
					r.w.Arm(again)
					if _, e := Recover(r.w, r.s, r.c); e != api.OK && e != api.ErrDown {
						t.Fatalf("batch %d, fuse %d, again %d: Recover: %d", i, fuse, again, e)
					}
					r.w.Power()
					r.takeUp(t, api.OK)
					st, held := start.st, ahead
					if fuse >= 8 { // two Gets, four Puts, Pend, the Put of the root
						st, held = next.st, behind
						news++
					} else {
						olds++
					}
					if is := r.whole(t); !sameState(r.st, st) || !reflect.DeepEqual(is, held) {
						t.Fatalf("batch %d, fuse %d, again %d: the vault holds %q, want %q", i, fuse, again, is, held)
					}
				}
			}
		}
	}
	if olds < 500 || news < 500 {
		t.Errorf("%d old ones, %d new ones: too few to say something", olds, news)
	}
}

// TestRecoversThatAreCutOff: however often, the first one that is not answers what counts.
func TestRecoversThatAreCutOff(t *testing.T) {
	for fuse := range 13 {
		r := filled(t, false)
		ahead := r.whole(t)
		next := r.twin(t)
		next.batch(t, api.OK, write("/g", 0, "new"), mkdir("/e"))
		behind := next.whole(t)
		r.w.Arm(fuse)
		r.batch(t, api.ErrDown, write("/g", 0, "new"), mkdir("/e"))
		for again := range 30 {
			r.w.Power()
			r.w.Arm(again % 10)
			st, e := Recover(r.w, r.s, r.c)
			if e == api.ErrDown {
				continue
			}
			if e != api.OK {
				t.Fatalf("fuse %d, again %d: %d", fuse, again, e)
			}
			r.st = st
		}
		r.w.Power()
		r.takeUp(t, api.OK)
		held := ahead
		if fuse >= 8 {
			held = behind
		}
		if is := r.whole(t); !reflect.DeepEqual(is, held) {
			t.Errorf("fuse %d: the vault holds %q, want %q", fuse, is, held)
		}
		r.batch(t, api.OK, read("/g"), mkdir("/x"))
	}
}

// TestFormatsThatAreCutOff leave a vault, or none.
func TestFormatsThatAreCutOff(t *testing.T) {
	blanks, vaults := 0, 0
	for fuse := range 13 {
		for second := range 23 {
			r := blank(t, six())
			r.w.Put("junk", "junk")
			r.w.Arm(fuse)
			r.format(t, api.ErrDown)
			r.w.Power()
			r.w.Arm(second)
			e := Format(r.w, r.t, r.s, r.c)
			if e != api.OK && e != api.ErrDown {
				t.Fatalf("fuses %d, %d: Format: %d", fuse, second, e)
			}
			r.w.Power()
			st, f := Recover(r.w, r.s, r.c)
			if e == api.OK && f != api.OK || f != api.OK && f != api.ErrBlank {
				t.Fatalf("fuses %d, %d: Recover: %d", fuse, second, f)
			}
			if f == api.ErrBlank {
				blanks++
				r.format(t, api.OK)
				r.takeUp(t, api.OK)
			} else {
				vaults++
				r.st = st
			}
			if held := r.whole(t); len(held) != 0 {
				t.Fatalf("fuses %d, %d: the vault holds %q", fuse, second, held)
			}
		}
	}
	if blanks < 50 || vaults < 50 {
		t.Errorf("%d without a vault, %d with one: too few to say something", blanks, vaults)
	}
}

// TestBatchesOverLosses: a long run of batches that are cut off at random, against a vault over which the power never fails.
func TestBatchesOverLosses(t *testing.T) {
	r := rand.New(rand.NewSource(6))
	olds, news, oks := 0, 0, 0
	for range 60 {
		c := someConfig(r)
		x := blank(t, c)
		x.setTape(t, someBytes(200000))
		x.format(t, api.OK)
		x.takeUp(t, api.OK)
		for range 25 {
			ops := someOps(r, c)
			ahead, next := x.st, x.twin(t)
			results := next.batch(t, api.OK, ops...)
			x.w.Arm(r.Intn(6*c.Slots + 2*pagesOf(t, c)))
			st, l, e := Batch(x.w, x.t, x.s, x.c, x.st, ops)
			x.w.Power()
			if e == api.OK {
				oks++
				if !sameState(st, next.st) || !sameResults(l, results) {
					t.Fatalf("%+v, %+v, want %+v, %+v", st, l, next.st, results)
				}
				x.st = st
				continue
			}
			if e != api.ErrDown {
				t.Fatalf("Batch: %d", e)
			}
			for range r.Intn(4) {
				x.w.Arm(r.Intn(12))
				if _, e := Recover(x.w, x.s, x.c); e != api.OK && e != api.ErrDown {
					t.Fatalf("Recover: %d", e)
				}
				x.w.Power()
			}
			x.takeUp(t, api.OK)
			switch {
			case sameState(x.st, ahead):
				olds++
			case sameState(x.st, next.st):
				news++
			default:
				t.Fatalf("neither the old state nor the new one: %+v", x.st)
			}
			x.whole(t)
		}
	}
	if olds < 100 || news < 100 || oks < 100 {
		t.Errorf("%d old ones, %d new ones, %d that were done: too few to say something", olds, news, oks)
	}
}

// P17.7

// honest is a vault of this state over a store in which each object is what the sealer's table says.
func honest(t *testing.T, x *rig, st api.State, root string) *rig {
	t.Helper()
	table := x.s.(*seal.Ideal).Table()
	tags := map[string]string{api.RootName: root}
	for _, o := range st.Pool.Objects {
		tags[o.Name] = o.Tag
	}
	for _, p := range st.Root.Pages {
		tags[p.Name] = p.Tag
	}
	var blobs []api.Blob
	for _, row := range table {
		if tag, there := tags[row.Name]; there && plainTag(row.Blob) == tag {
			blobs = append(blobs, api.Blob{Name: row.Name, Blob: row.Blob})
		}
	}
	bytes := x.bytes[x.t.Drawn():]
	return &rig{c: x.c, w: mustAdopt(t, blobs, api.Register{Current: root}), bytes: bytes, t: mustTape(t, bytes), s: mustIdeal(t, table), st: copyOf(st)}
}

// siege is a vault whose store is another's, and what it must say: the state ahead, and the one behind a batch that is open.
type siege struct {
	x            *rig
	ahead        api.State
	behind       api.State
	root, next   string // the tags of their roots
	open         bool
	edits        int
	done, halted int
}

func (s *siege) batch(t *testing.T, r *rand.Rand) (stopped bool) {
	t.Helper()
	ops := someOps(r, s.x.c)
	twin := honest(t, s.x, s.ahead, s.root)
	results := twin.batch(t, api.OK, ops...)
	st, l, e := Batch(s.x.w, s.x.t, s.x.s, s.x.c, s.ahead, ops)
	switch e {
	case api.OK:
		if !sameState(st, twin.st) || !sameResults(l, results) {
			t.Fatalf("Batch: %+v, %+v, want %+v, %+v", st, l, twin.st, results)
		}
		s.ahead, s.root = st, twin.w.Kept().Current
		s.done++
	case api.ErrDown:
		s.behind, s.next, s.open = twin.st, twin.w.Kept().Current, true
	case api.ErrTampered:
		return true
	default:
		t.Fatalf("Batch: %d", e)
	}
	return false
}

func (s *siege) takeUp(t *testing.T) (stopped bool) {
	t.Helper()
	st, e := Recover(s.x.w, s.x.s, s.x.c)
	switch {
	case e == api.ErrDown:
		return false
	case e == api.ErrTampered:
		return true
	case e == api.OK && sameState(st, s.ahead):
	case e == api.OK && s.open && sameState(st, s.behind):
		s.ahead, s.root = s.behind, s.next
	default:
		t.Fatalf("Recover: %d, %+v", e, st)
	}
	s.open = false
	s.done++
	return false
}

// run goes on till the vault is stopped, or enough was done.
func (s *siege) run(t *testing.T, r *rand.Rand) {
	t.Helper()
	for range 20 {
		for range r.Intn(3) {
			if r.Intn(2) == 0 && s.x.w.Plan(someEdit(r, s.x.w, 15)) == api.OK {
				s.edits++
			}
		}
		if r.Intn(3) == 0 {
			s.x.w.Arm(r.Intn(25))
		}
		stopped := false
		if s.open || r.Intn(3) == 0 {
			stopped = s.takeUp(t)
		} else {
			stopped = s.batch(t, r)
		}
		s.x.w.Power()
		if stopped {
			if s.edits == 0 {
				t.Fatal("ErrTampered, and nobody has touched the store")
			}
			s.halted++
			s.x.wantStopped(t)
			return
		}
	}
}

func TestNothingElse(t *testing.T) {
	r := rand.New(rand.NewSource(7))
	done, halted := 0, 0
	for range 500 {
		x := blank(t, someConfig(r))
		x.setTape(t, someBytes(60000))
		x.format(t, api.OK)
		x.takeUp(t, api.OK)
		s := &siege{x: x, ahead: x.st, root: x.w.Kept().Current}
		s.run(t, r)
		done, halted = done+s.done, halted+s.halted
	}
	if done < 500 || halted < 200 {
		t.Errorf("%d calls were done, %d vaults were stopped: too few to say something", done, halted)
	}
}

// TestEveryObjectIsHeld: each object of a vault, changed in each of some ways, is found out by a Recover and the batches
// behind it, or was not asked for: then all is as it was.
func TestEveryObjectIsHeld(t *testing.T) {
	start := filled(t, false)
	held := start.whole(t)
	for _, b := range start.w.Dump() {
		for i, blob := range []string{"", b.Blob[1:], b.Blob + "x", "x" + b.Blob[1:], b.Blob[:len(b.Blob)-1] + "x", sixteen("x") + b.Blob[len(b.Blob)-16:]} {
			r := start.twin(t)
			k := r.w.Kept()
			var blobs []api.Blob
			for _, x := range r.w.Dump() {
				if x.Name == b.Name {
					x.Blob = blob
				}
				blobs = append(blobs, x)
			}
			r.w = mustAdopt(t, blobs, k)
			_, e := Recover(r.w, r.s, r.c)
			if e == api.ErrTampered {
				r.wantStopped(t)
				continue
			}
			for _, path := range []string{"/d/f", "/g"} {
				st, l, f := Batch(r.w, r.t, r.s, r.c, r.st, []api.Op{read(path), read(path)})
				if e = f; f != api.OK {
					break
				}
				if r.st = st; "file "+l[0].Data != held[path] {
					t.Fatalf("way %d: %s has %q", i, path, l[0].Data)
				}
			}
			if e != api.OK && e != api.ErrTampered {
				t.Errorf("way %d of %x: %d", i, b.Name, e)
			}
			if e == api.OK { // a dummy that was not touched: the next batches come to it
				for range 5 {
					st, _, f := Batch(r.w, r.t, r.s, r.c, r.st, nil)
					if e = f; f != api.OK {
						break
					}
					r.st = st
				}
			}
			if e != api.ErrTampered {
				t.Errorf("way %d of %x is not found out: %d", i, b.Name, e)
			}
			r.wantStopped(t)
		}
	}
}
