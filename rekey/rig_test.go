package rekey

import (
	"math/rand"
	"slices"
	"strings"
	"testing"

	"casket/api"
	"casket/commit"
	"casket/index"
	"casket/seal"
	"casket/tape"
	"casket/world"
)

// six is the configuration F of the chapter's examples: 2 slots, 5 rows, 2 pages, a root of 96 bytes.
func six() api.Config {
	return api.Config{Slots: 2, Files: 3, Dirs: 2, MaxFile: 100, Least: 16, Page: 256}
}

// least has as little of everything as may be.
func least() api.Config { return api.Config{Slots: 1, Files: 1, Least: 16, Page: 64} }

// someBytes is a text of that many bytes in which no sixteen come twice.
func someBytes(n int) string {
	r, b := rand.New(rand.NewSource(int64(n))), make([]byte, n)
	r.Read(b)
	return string(b)
}

var longTape = someBytes(200000)

func sixteen(letter string) string { return strings.Repeat(letter, 16) }

func mustTape(t *testing.T, bytes string) *tape.Tape {
	t.Helper()
	x, e := tape.New(bytes)
	if e != api.OK {
		t.Fatalf("tape.New: %d", e)
	}
	return x
}

func mustIdeal(t *testing.T, rows []api.Sealed) *seal.Ideal {
	t.Helper()
	s, e := seal.NewIdeal(rows)
	if e != api.OK {
		t.Fatalf("seal.NewIdeal: %d", e)
	}
	return s
}

func mustReal(t *testing.T, letter string) *seal.Real {
	t.Helper()
	s, e := seal.NewReal(strings.Repeat(letter, 32))
	if e != api.OK {
		t.Fatalf("seal.NewReal: %d", e)
	}
	return s
}

func mustAdopt(t *testing.T, blobs []api.Blob, r api.Register) *world.World {
	t.Helper()
	w, e := world.Adopt(blobs, r)
	if e != api.OK {
		t.Fatalf("world.Adopt: %d", e)
	}
	return w
}

func pagesOf(t *testing.T, c api.Config) int {
	t.Helper()
	m, e := index.Pages(c)
	if e != api.OK {
		t.Fatalf("index.Pages: %d", e)
	}
	return m
}

// The sorts of the two sealers: they need not be of one.
const (
	idealIdeal = iota
	realReal
	idealReal
	realIdeal
	oneIdeal // both are the same
	oneReal
	sorts
)

func sealersOf(t *testing.T, sort int) (seal.Sealer, seal.Sealer) {
	t.Helper()
	ideal, real := mustIdeal(t, nil), mustReal(t, "a")
	return []seal.Sealer{ideal, real, ideal, real, ideal, real}[sort], []seal.Sealer{mustIdeal(t, nil), mustReal(t, "b"), real, ideal, ideal, real}[sort]
}

// rig is a vault and all that it hangs on: it is under a at first.
type rig struct {
	c     api.Config
	w     *world.World
	bytes string // of the tape
	t     *tape.Tape
	a, b  seal.Sealer
}

func blank(t *testing.T, c api.Config, sort int) *rig {
	t.Helper()
	r := &rig{c: c, w: world.New()}
	r.setTape(t, longTape)
	r.a, r.b = sealersOf(t, sort)
	return r
}

// made is a rig with a vault that holds nothing.
func made(t *testing.T, c api.Config, sort int) *rig {
	t.Helper()
	r := blank(t, c, sort)
	if e := commit.Format(r.w, r.t, r.a, r.c); e != api.OK {
		t.Fatalf("Format: %d", e)
	}
	return r
}

// example is the vault of the chapter's examples.
func example(t *testing.T) *rig {
	t.Helper()
	r := made(t, six(), idealIdeal)
	r.batch(t, r.a, create("/x"), write("/x", "hi"))
	return r
}

// filled is a vault in which there is something of everything.
func filled(t *testing.T, sort int) *rig {
	t.Helper()
	r := made(t, six(), sort)
	r.batch(t, r.a, mkdir("/d"), create("/d/f"))
	r.batch(t, r.a, write("/d/f", "grain"), create("/g"))
	r.batch(t, r.a, write("/g", strings.Repeat("g", 60)))
	return r
}

func filledHolds() map[string]string {
	return map[string]string{"/d": "dir", "/d/f": "file grain", "/g": "file " + strings.Repeat("g", 60)}
}

func (r *rig) setTape(t *testing.T, bytes string) {
	t.Helper()
	r.bytes, r.t = bytes, mustTape(t, bytes)
}

func (r *rig) takeUp(t *testing.T, s seal.Sealer) api.State {
	t.Helper()
	st, e := commit.Recover(r.w, s, r.c)
	if e != api.OK {
		t.Fatalf("Recover: %d", e)
	}
	return st
}

// batch does one under that sealer, behind a Recover.
func (r *rig) batch(t *testing.T, s seal.Sealer, ops ...api.Op) []api.Result {
	t.Helper()
	_, results, e := commit.Batch(r.w, r.t, s, r.c, r.takeUp(t, s), ops)
	if e != api.OK {
		t.Fatalf("Batch: %d", e)
	}
	return results
}

func (r *rig) settle(t *testing.T, side int, want api.Errno) {
	t.Helper()
	if n, e := Settle(r.w, r.a, r.b, r.c); n != side || e != want {
		t.Fatalf("Settle: %d, %d, want %d, %d", n, e, side, want)
	}
}

func (r *rig) rotate(t *testing.T, want api.Errno) {
	t.Helper()
	if e := Rotate(r.w, r.t, r.a, r.b, r.c); e != want {
		t.Fatalf("Rotate: %d, want %d", e, want)
	}
}

// calls is the store calls from a number on: a letter each, and a star behind those of the root.
func (r *rig) calls(from int) string {
	var b strings.Builder
	for _, c := range r.w.Trace()[from:] {
		b.WriteByte(" GPDL"[c.Kind])
		if c.Name == api.RootName {
			b.WriteByte('*')
		}
	}
	return b.String()
}

func (r *rig) wantCalls(t *testing.T, from int, want string) {
	t.Helper()
	if is := r.calls(from); is != want {
		t.Errorf("the calls are %q, want %q", is, want)
	}
}

// again is a sealer that goes on as this one does, and has nothing in common with it. (The real one keeps nothing.)
func again(t *testing.T, s seal.Sealer) seal.Sealer {
	t.Helper()
	if ideal, is := s.(*seal.Ideal); is {
		return mustIdeal(t, ideal.Table())
	}
	return s
}

// twin is a rig that goes on as this one does, and has nothing in common with it.
func (r *rig) twin(t *testing.T) *rig {
	t.Helper()
	x := &rig{c: r.c, w: mustAdopt(t, r.w.Dump(), r.w.Kept()), a: again(t, r.a)}
	x.setTape(t, r.bytes[r.t.Drawn():])
	if x.b = x.a; r.a != r.b {
		x.b = again(t, r.b)
	}
	return x
}

// tableOf is all that a sealer has sealed, of the ideal one.
func tableOf(s seal.Sealer) []api.Sealed {
	if ideal, is := s.(*seal.Ideal); is {
		return ideal.Table()
	}
	return nil
}

// objects is the store's blobs by their names.
func (r *rig) objects() map[string]string {
	blobs := map[string]string{}
	for _, b := range r.w.Dump() {
		blobs[b.Name] = b.Blob
	}
	return blobs
}

// counts is the state whose root the register has as its Current, and what it holds, by the sealer's own table: what lies in
// the store says nothing of it.
func (r *rig) counts(t *testing.T, s seal.Sealer) (api.State, map[string]string) {
	t.Helper()
	blobs := map[api.Ref]string{}
	for _, row := range tableOf(s) {
		blobs[api.Ref{Name: row.Name, Tag: plainTag(row.Blob)}] = row.Blob
	}
	return r.read(t, s, r.w.Kept().Current, func(name, tag string) string { return blobs[api.Ref{Name: name, Tag: tag}] })
}

// opened is the body of a blob with this tag, and the length of its frame.
func opened(t *testing.T, s seal.Sealer, kind int, name, blob, tag string) (string, int) {
	t.Helper()
	if plainTag(blob) != tag {
		t.Fatalf("the object %x is not there, or has another tag", name)
	}
	text, e := s.Open(kind, name, blob)
	body, ok := plainUnpack(kind, text)
	if e != api.OK || !ok {
		t.Fatalf("the object %x does not open: %d, %v", name, e, ok)
	}
	return body, len(text)
}

// whole is that a store has just what a vault under that sealer has, with no batch or Rotate open. It tells its state, and
// what it holds.
func (r *rig) whole(t *testing.T, s seal.Sealer) (api.State, map[string]string) {
	t.Helper()
	k := r.w.Kept()
	if k.Pending != "" || k.Stopped || len(r.w.Dump()) != r.c.Files+r.c.Slots+pagesOf(t, r.c)+1 {
		t.Fatalf("%d objects, the register %+v", len(r.w.Dump()), k)
	}
	objects := r.objects()
	return r.read(t, s, k.Current, func(name, tag string) string { return objects[name] })
}

// read is the state and what it holds, of a root with this tag, over objects that are found so.
func (r *rig) read(t *testing.T, s seal.Sealer, tag string, blobOf func(name, tag string) string) (api.State, map[string]string) {
	t.Helper()
	body, size := opened(t, s, api.KindRoot, api.RootName, blobOf(api.RootName, tag), tag)
	root, e := index.DecodeRoot(r.c, body)
	if e != api.OK || size != 5+27+32*len(root.Pages) {
		t.Fatalf("the root has %d bytes, %d", size, e)
	}
	var bodies []string
	for _, p := range root.Pages {
		body, size := opened(t, s, api.KindPage, p.Name, blobOf(p.Name, p.Tag), p.Tag)
		if size != r.c.Page {
			t.Fatalf("a page of %d bytes", size)
		}
		bodies = append(bodies, body)
	}
	files, table, e := index.Decode(r.c, bodies)
	if e != api.OK {
		t.Fatalf("the pages say nothing: %d", e)
	}
	st := api.State{Tree: files, Pool: table, Root: root}
	paths, held := pathsOf(st.Tree), map[string]string{}
	for _, n := range st.Tree.Nodes {
		held[paths[[2]int{n.Kind, n.Number}]] = "dir"
	}
	for _, o := range st.Pool.Objects {
		body, size := opened(t, s, api.KindData, o.Name, blobOf(o.Name, o.Tag), o.Tag)
		if size != o.Bucket || o.Owner == -1 && body != "" {
			t.Fatalf("the row %+v has %q in a frame of %d", o, body, size)
		}
		if o.Owner != -1 {
			held[paths[[2]int{api.IsFile, o.Owner}]] = "file " + body
		}
	}
	return st, held
}

// pathsOf is the path of each node, by its kind and number.
func pathsOf(s api.TreeState) map[[2]int]string {
	paths := map[[2]int]string{{api.IsDir, 0}: ""}
	for range s.Nodes {
		for _, n := range s.Nodes {
			if above, there := paths[[2]int{api.IsDir, n.Parent}]; there {
				paths[[2]int{n.Kind, n.Number}] = above + "/" + n.Name
			}
		}
	}
	return paths
}

func sameState(a, b api.State) bool {
	return a.Tree.Files == b.Tree.Files && a.Tree.Dirs == b.Tree.Dirs && slices.Equal(a.Tree.Nodes, b.Tree.Nodes) &&
		slices.Equal(a.Pool.Objects, b.Pool.Objects) && slices.Equal(a.Pool.Queue, b.Pool.Queue) &&
		a.Root.Config == b.Root.Config && slices.Equal(a.Root.Pages, b.Root.Pages)
}

func sameCall(a, b api.Call) bool {
	return a.Kind == b.Kind && a.Name == b.Name && a.Blob == b.Blob && a.Code == b.Code && a.Reply == b.Reply && slices.Equal(a.Names, b.Names)
}

func mkdir(path string) api.Op  { return api.Op{Kind: api.OpMkdir, Path: path} }
func create(path string) api.Op { return api.Op{Kind: api.OpCreate, Path: path} }
func remove(path string) api.Op { return api.Op{Kind: api.OpRemove, Path: path} }
func read(path string) api.Op   { return api.Op{Kind: api.OpRead, Path: path, N: api.MaxFile} }

func write(path, data string) api.Op { return api.Op{Kind: api.OpWrite, Path: path, Data: data} }

// What follows does the document's words once more, from top to bottom, over lists that are gone through, against which the
// program is held. The layers below are taken for what they say, but for frames.

func plainPack(kind int, body string, size int) string {
	b := []byte{byte(kind), 0, byte(len(body) >> 16), byte(len(body) >> 8), byte(len(body))}
	return string(b) + body + strings.Repeat("\x00", size-5-len(body))
}

func plainUnpack(kind int, text string) (string, bool) {
	if len(text) < 5 || len(text) > api.MaxBlob || int(text[0]) != kind {
		return "", false
	}
	n := int(text[1])<<24 | int(text[2])<<16 | int(text[3])<<8 | int(text[4])
	if n > len(text)-5 || strings.Trim(text[5+n:], "\x00") != "" {
		return "", false
	}
	return text[5 : 5+n], true
}

func plainTag(blob string) string {
	if len(blob) < 16 {
		return ""
	}
	return blob[len(blob)-16:]
}

func plainNames(st api.State) []string {
	var names []string
	for _, o := range st.Pool.Objects {
		names = append(names, o.Name)
	}
	for _, p := range st.Root.Pages {
		names = append(names, p.Name)
	}
	return names
}

// drawn counts what was drawn once more, over all calls.
type drawn struct{ names, coins int }

// plainDraw is the names of that many objects, and the coins of these sizes.
func plainDraw(t *tape.Tape, s seal.Sealer, taken []string, names int, sizes []int, count *drawn) ([]string, []string, api.Errno) {
	var n, coins []string
	for len(n) < names {
		x, e := t.Draw(16)
		if e != api.OK {
			return nil, nil, api.ErrEntropy
		}
		if slices.Contains(taken, x) || slices.Contains(n, x) {
			count.names++
			continue
		}
		n = append(n, x)
	}
	for len(coins) < len(sizes) {
		x, e := t.Draw(s.Coins(sizes[len(coins)]))
		if e != api.OK {
			return nil, nil, api.ErrEntropy
		}
		if !s.Fresh(x) || slices.ContainsFunc(coins, func(y string) bool { return plainTag(y) == plainTag(x) }) {
			count.coins++
			continue
		}
		coins = append(coins, x)
	}
	return n, coins, api.OK
}

func plainSettle(w *world.World, from, to seal.Sealer, c api.Config) (int, api.State, api.Errno) {
	r, e := w.Load()
	if e != api.OK {
		return 0, api.State{}, e
	}
	if r.Stopped {
		return 0, api.State{}, api.ErrTampered
	}
	if r.Current == "" && r.Pending == "" {
		return 0, api.State{}, api.ErrBlank
	}
	blob, e := w.Get(api.RootName)
	if e == api.ErrDown {
		return 0, api.State{}, e
	}
	side, s := 1, from
	isPending := r.Pending != "" && plainTag(blob) == r.Pending
	isCurrent := r.Current != "" && plainTag(blob) == r.Current
	_, byFrom := from.Open(api.KindRoot, api.RootName, blob)
	_, byTo := to.Open(api.KindRoot, api.RootName, blob)
	if e == api.OK && (isPending || isCurrent) && byTo == api.OK && byFrom != api.OK {
		side, s = 2, to
	}
	st, e := commit.Recover(w, s, c)
	if e != api.OK {
		return 0, api.State{}, e
	}
	return side, st, api.OK
}

func plainContents(w *world.World, from seal.Sealer, st api.State) ([]string, api.Errno) {
	var contents []string
	for _, o := range st.Pool.Objects {
		blob, e := w.Get(o.Name)
		if e == api.ErrDown {
			return nil, e
		}
		size := 0
		for _, n := range st.Tree.Nodes {
			if n.Kind == api.IsFile && n.Number == o.Owner {
				size = n.Size
			}
		}
		text, f := from.Open(api.KindData, o.Name, blob)
		body, ok := plainUnpack(api.KindData, text)
		if e == api.ErrNone || f != api.OK || plainTag(blob) != o.Tag || !ok || len(body) != size {
			if w.Stop() != api.OK {
				return nil, api.ErrDown
			}
			return nil, api.ErrTampered
		}
		contents = append(contents, body)
	}
	return contents, api.OK
}

func plainRotate(w *world.World, t *tape.Tape, from, to seal.Sealer, c api.Config, count *drawn) api.Errno {
	side, st, e := plainSettle(w, from, to, c)
	if e != api.OK || side == 2 {
		return e
	}
	rows, m := len(st.Pool.Objects), len(st.Root.Pages)
	var sizes []int
	for _, o := range st.Pool.Objects {
		sizes = append(sizes, o.Bucket)
	}
	sizes = append(append(sizes, slices.Repeat([]int{c.Page}, m)...), 5+27+32*m)
	names, coins, e := plainDraw(t, to, plainNames(st), rows+m, sizes, count)
	if e != api.OK {
		return e
	}
	contents, e := plainContents(w, from, st)
	if e != api.OK {
		return e
	}
	var blobs []string
	next := api.State{Tree: st.Tree, Pool: api.PoolState{Queue: st.Pool.Queue}, Root: api.Root{Config: c}}
	for i, o := range st.Pool.Objects {
		b, _ := to.Seal(api.KindData, names[i], plainPack(api.KindData, contents[i], o.Bucket), coins[i])
		next.Pool.Objects = append(next.Pool.Objects, api.Object{Name: names[i], Tag: plainTag(b), Bucket: o.Bucket, Owner: o.Owner})
		blobs = append(blobs, b)
	}
	bodies, e := index.Encode(c, next.Tree, next.Pool)
	if e != api.OK {
		return e
	}
	for _, body := range bodies {
		i := len(blobs)
		b, _ := to.Seal(api.KindPage, names[i], plainPack(api.KindPage, body, c.Page), coins[i])
		next.Root.Pages = append(next.Root.Pages, api.Ref{Name: names[i], Tag: plainTag(b)})
		blobs = append(blobs, b)
	}
	body, e := index.EncodeRoot(c, next.Root)
	if e != api.OK {
		return e
	}
	root, _ := to.Seal(api.KindRoot, api.RootName, plainPack(api.KindRoot, body, 5+27+32*m), coins[len(blobs)])
	for i, b := range blobs {
		if w.Put(names[i], b) != api.OK {
			return api.ErrDown
		}
	}
	if w.Pend(plainTag(root)) != api.OK || w.Put(api.RootName, root) != api.OK || w.Commit() != api.OK {
		return api.ErrDown
	}
	for _, name := range plainNames(st) {
		if w.Delete(name) == api.ErrDown {
			return api.ErrDown
		}
	}
	return api.OK
}

// Some of everything.

func someOp(r *rand.Rand, most int) api.Op {
	kinds := []int{api.OpCreate, api.OpCreate, api.OpWrite, api.OpWrite, api.OpWrite, api.OpCut, api.OpRename, api.OpRemove, api.OpMkdir}
	paths := []string{"/a", "/b", "/c", "/a/b", "/a/c"}
	op := api.Op{Kind: kinds[r.Intn(len(kinds))], Path: paths[r.Intn(len(paths))], To: paths[r.Intn(len(paths))], N: r.Intn(most + 1)}
	op.Data = strings.Repeat(string(rune('a'+r.Intn(26))), r.Intn(most+1))
	return op
}

func someOps(r *rand.Rand, c api.Config) []api.Op {
	var ops []api.Op
	for range r.Intn(c.Slots + 1) {
		ops = append(ops, someOp(r, c.MaxFile))
	}
	return ops
}

func someConfig(r *rand.Rand) api.Config {
	return api.Config{Slots: 1 + r.Intn(3), Files: 1 + r.Intn(4), Dirs: r.Intn(3), MaxFile: r.Intn(80), Least: 16 + r.Intn(30), Page: 64 + r.Intn(300)}
}

// someEdit is one of the adversary's, ahead of one of the next store calls.
func someEdit(r *rand.Rand, w *world.World, ahead int) api.Edit {
	calls := w.Calls()
	e := api.Edit{Before: calls + r.Intn(ahead), Kind: 1 + r.Intn(6), Put: r.Intn(calls + 5), From: r.Intn(calls + 5)}
	e.Name = []string{"x", api.RootName, sixteen("y")}[r.Intn(3)]
	e.Blob = strings.Repeat("z", r.Intn(70))
	if d := w.Dump(); len(d) > 0 && r.Intn(2) == 0 {
		e.Name, e.Blob = d[r.Intn(len(d))].Name, d[r.Intn(len(d))].Blob
	}
	return e
}

// againAndAgain is a tape on which names and tags come again: it is made of a few pieces of eight bytes.
func againAndAgain(r *rand.Rand, n int) string {
	pieces := make([]string, 5+r.Intn(20))
	for i := range pieces {
		piece := make([]byte, 8)
		r.Read(piece)
		pieces[i] = string(piece)
	}
	var b strings.Builder
	for b.Len() < n {
		b.WriteString(pieces[r.Intn(len(pieces))])
	}
	return b.String()
}
