package audit

import (
	"math/rand"
	"reflect"
	"runtime"
	"slices"
	"strings"
	"sync"
	"testing"
	"time"

	"casket/api"
	"casket/commit"
	"casket/frame"
	"casket/index"
	"casket/pool"
	"casket/seal"
	"casket/tape"
	"casket/tree"
	"casket/world"
)

// six is the configuration F of the chapter's examples: 2 slots, 5 rows, 2 pages.
func six() api.Config {
	return api.Config{Slots: 2, Files: 3, Dirs: 2, MaxFile: 100, Least: 16, Page: 256}
}

// least has as little of everything as may be.
func least() api.Config { return api.Config{Slots: 1, Files: 1, Least: 16, Page: 64} }

// someBytes is a text of that many bytes in which no sixteen come twice.
func someBytes(n int) string {
	r, b := rand.New(rand.NewSource(int64(n))), make([]byte, n)
	r.Read(b)
	return string(b)
}

var (
	longTape = someBytes(1000000)
	master   = strings.Repeat("k", 32)
	otherTag = strings.Repeat("t", 16)
)

func must[T any](t *testing.T) func(T, api.Errno) T {
	return func(answer T, e api.Errno) T {
		t.Helper()
		if e != api.OK {
			t.Fatalf("the error %d", e)
		}
		return answer
	}
}

// rig is a vault and all that it hangs on.
type rig struct {
	c  api.Config
	w  *world.World
	t  *tape.Tape
	s  seal.Sealer
	st api.State
}

// blank is a rig on which nothing was done yet.
func blank(t *testing.T, c api.Config, s seal.Sealer) *rig {
	t.Helper()
	return &rig{c: c, w: world.New(), t: must[*tape.Tape](t)(tape.New(longTape)), s: s}
}

func ideal(t *testing.T) seal.Sealer {
	t.Helper()
	return must[*seal.Ideal](t)(seal.NewIdeal(nil))
}

func real(t *testing.T) seal.Sealer {
	t.Helper()
	return must[*seal.Real](t)(seal.NewReal(master))
}

// again is a sealer that has sealed the same.
func again(t *testing.T, s seal.Sealer) seal.Sealer {
	t.Helper()
	if i, is := s.(*seal.Ideal); is {
		return must[*seal.Ideal](t)(seal.NewIdeal(i.Table()))
	}
	return real(t)
}

// made is a rig with a vault that was formatted and recovered.
func made(t *testing.T, c api.Config, s seal.Sealer) *rig {
	t.Helper()
	r := blank(t, c, s)
	if e := commit.Format(r.w, r.t, r.s, r.c); e != api.OK {
		t.Fatalf("Format: %d", e)
	}
	r.takeUp(t, api.OK)
	return r
}

func (r *rig) takeUp(t *testing.T, want api.Errno) {
	t.Helper()
	st, e := commit.Recover(r.w, r.s, r.c)
	if e != want {
		t.Fatalf("Recover: %d, want %d", e, want)
	}
	r.st = st
}

func (r *rig) batch(t *testing.T, want api.Errno, ops ...api.Op) []api.Result {
	t.Helper()
	st, results, e := commit.Batch(r.w, r.t, r.s, r.c, r.st, ops)
	if e != want {
		t.Fatalf("Batch: %d, want %d", e, want)
	}
	if e == api.OK {
		r.st = st
	}
	return results
}

// filled is a rig with the directory and the file of the chapter's example 2.
func filled(t *testing.T, s seal.Sealer) *rig {
	t.Helper()
	r := made(t, six(), s)
	r.batch(t, api.OK, mkdir("/a"), create("/a/x"))
	r.batch(t, api.OK, write("/a/x", 0, strings.Repeat("d", 20)))
	return r
}

func filledAudit() api.Audit {
	return api.Audit{Objects: 5, Pages: 2, Files: 1, Dirs: 1, Bytes: 20, Buckets: []int{16, 16, 16, 16, 26}}
}

func mkdir(path string) api.Op  { return api.Op{Kind: api.OpMkdir, Path: path} }
func create(path string) api.Op { return api.Op{Kind: api.OpCreate, Path: path} }
func remove(path string) api.Op { return api.Op{Kind: api.OpRemove, Path: path} }
func read(path string) api.Op   { return api.Op{Kind: api.OpRead, Path: path, N: api.MaxFile} }

func cut(path string, n int) api.Op { return api.Op{Kind: api.OpCut, Path: path, N: n} }

func rename(path, to string) api.Op { return api.Op{Kind: api.OpRename, Path: path, To: to} }

func write(path string, at int, data string) api.Op {
	return api.Op{Kind: api.OpWrite, Path: path, At: at, Data: data}
}

func placeOf(t *testing.T, blobs []api.Blob, name string) int {
	t.Helper()
	i := slices.IndexFunc(blobs, func(b api.Blob) bool { return b.Name == name })
	if i < 0 {
		t.Fatalf("there is no object %x", name)
	}
	return i
}

func without(t *testing.T, blobs []api.Blob, name string) []api.Blob {
	t.Helper()
	i := placeOf(t, blobs, name)
	return slices.Delete(slices.Clone(blobs), i, i+1)
}

func with(t *testing.T, blobs []api.Blob, name, blob string) []api.Blob {
	t.Helper()
	blobs = slices.Clone(blobs)
	blobs[placeOf(t, blobs, name)].Blob = blob
	return blobs
}

func beside(blobs []api.Blob, more ...api.Blob) []api.Blob {
	return append(slices.Clone(blobs), more...)
}

func blobOf(t *testing.T, blobs []api.Blob, name string) string {
	t.Helper()
	return blobs[placeOf(t, blobs, name)].Blob
}

// turned has one bit of one byte turned.
func turned(text string, i int) string {
	b := []byte(text)
	b[i] ^= 1
	return string(b)
}

func sameAudit(a, b api.Audit) bool {
	x, y := a.Buckets, b.Buckets
	a.Buckets, b.Buckets = nil, nil
	return reflect.DeepEqual(a, b) && slices.Equal(x, y)
}

func wantCheck(t *testing.T, what string, blobs []api.Blob, r api.Register, s seal.Sealer, c api.Config, want api.Audit, code api.Errno) {
	t.Helper()
	a, e := Check(blobs, r, s, c)
	if e != code || !sameAudit(a, want) {
		t.Errorf("%s: %+v, %d, want %+v, %d", what, a, e, want, code)
	}
}

func wantCode(t *testing.T, what string, blobs []api.Blob, r api.Register, s seal.Sealer, c api.Config, code api.Errno) {
	t.Helper()
	wantCheck(t, what, blobs, r, s, c, api.Audit{}, code)
}

// bothSealers runs a test over each of them.
func bothSealers(t *testing.T, do func(t *testing.T, s seal.Sealer)) {
	t.Run("ideal", func(t *testing.T) { do(t, ideal(t)) })
	t.Run("real", func(t *testing.T) { do(t, real(t)) })
}

// Of P21.3: the chapter's examples 1 and 2.
func TestWhatAVaultHolds(t *testing.T) {
	bothSealers(t, func(t *testing.T, s seal.Sealer) {
		r := made(t, six(), s)
		wantCheck(t, "a new vault", r.w.Dump(), r.w.Kept(), s, six(), api.Audit{Objects: 5, Pages: 2, Buckets: []int{16, 16, 16, 16, 16}}, api.OK)
		r.batch(t, api.OK, mkdir("/a"), create("/a/x"))
		wantCheck(t, "an empty file", r.w.Dump(), r.w.Kept(), s, six(), api.Audit{Objects: 5, Pages: 2, Files: 1, Dirs: 1, Buckets: []int{16, 16, 16, 16, 16}}, api.OK)
		r.batch(t, api.OK, write("/a/x", 0, strings.Repeat("d", 20)))
		wantCheck(t, "20 bytes", r.w.Dump(), r.w.Kept(), s, six(), filledAudit(), api.OK)
		r.batch(t, api.OK, mkdir("/a/b"), create("/y"))
		r.batch(t, api.OK, create("/a/b/z"), write("/a/b/z", 0, strings.Repeat("z", 100)))
		r.batch(t, api.OK, write("/y", 0, "y"))
		wantCheck(t, "as much as may be", r.w.Dump(), r.w.Kept(), s, six(), api.Audit{Objects: 5, Pages: 2, Files: 3, Dirs: 2, Bytes: 121, Buckets: []int{16, 16, 16, 26, 112}}, api.OK)
		r.batch(t, api.OK, remove("/a/b/z"), cut("/a/x", 3))
		wantCheck(t, "less again", r.w.Dump(), r.w.Kept(), s, six(), api.Audit{Objects: 5, Pages: 2, Files: 2, Dirs: 2, Bytes: 4, Buckets: []int{16, 16, 16, 16, 16}}, api.OK)
	})
}

// Of P21.3: the order of the objects says nothing.
func TestOrderOfObjects(t *testing.T) {
	r := filled(t, ideal(t))
	blobs := r.w.Dump()
	slices.Reverse(blobs)
	wantCheck(t, "backwards", blobs, r.w.Kept(), r.s, six(), filledAudit(), api.OK)
	rand.New(rand.NewSource(1)).Shuffle(len(blobs), func(i, j int) { blobs[i], blobs[j] = blobs[j], blobs[i] })
	wantCheck(t, "mixed", blobs, r.w.Kept(), r.s, six(), filledAudit(), api.OK)
}

// Of P21.3: the chapter's examples 3 and 6, of each row.
func TestRowsMissingAndSpoilt(t *testing.T) {
	bothSealers(t, func(t *testing.T, s seal.Sealer) {
		r := filled(t, s)
		blobs, k := r.w.Dump(), r.w.Kept()
		gone, bad := filledAudit(), filledAudit()
		gone.Objects, gone.Missing = 4, 1
		bad.Objects, bad.Spoilt = 4, 1
		rows := r.st.Pool.Objects
		for i, o := range rows {
			blob := blobOf(t, blobs, o.Name)
			wantCheck(t, "away", without(t, blobs, o.Name), k, s, six(), gone, api.OK)
			for at := range len(blob) {
				wantCheck(t, "a byte changed", with(t, blobs, o.Name, turned(blob, at)), k, s, six(), bad, api.OK)
			}
			for _, other := range []string{"", blob[:len(blob)-1], blob[1:], blob + "\x00", "\x00" + blob, blob[len(blob)-16:], blob[:16], strings.Repeat("x", api.MaxBlob)} {
				wantCheck(t, "another blob", with(t, blobs, o.Name, other), k, s, six(), bad, api.OK)
			}
			for j, p := range rows {
				if j != i {
					wantCheck(t, "another row's", with(t, blobs, o.Name, blobOf(t, blobs, p.Name)), k, s, six(), bad, api.OK)
				}
			}
			for _, p := range r.st.Root.Pages {
				wantCheck(t, "a page", with(t, blobs, o.Name, blobOf(t, blobs, p.Name)), k, s, six(), bad, api.OK)
			}
			wantCheck(t, "the root", with(t, blobs, o.Name, blobOf(t, blobs, api.RootName)), k, s, six(), bad, api.OK)
		}
	})
}

// Of P21.3: rows are counted one by one, and each once.
func TestManyRowsMissingAndSpoilt(t *testing.T) {
	r := filled(t, ideal(t))
	rows := r.st.Pool.Objects
	for away := range 1 << len(rows) {
		for bad := range 1 << len(rows) {
			blobs, want := r.w.Dump(), filledAudit()
			for i, o := range rows {
				if away>>i&1 == 1 {
					blobs = without(t, blobs, o.Name)
					want.Objects, want.Missing = want.Objects-1, want.Missing+1
				} else if bad>>i&1 == 1 {
					blobs = with(t, blobs, o.Name, turned(blobOf(t, blobs, o.Name), 7))
					want.Objects, want.Spoilt = want.Objects-1, want.Spoilt+1
				}
			}
			wantCheck(t, "some away, some changed", blobs, r.w.Kept(), r.s, six(), want, api.OK)
		}
	}
}

// Of P21.3: what is no part of the vault, whatever it holds.
func TestForeign(t *testing.T) {
	r := filled(t, ideal(t))
	blobs, k := r.w.Dump(), r.w.Kept()
	row, page := r.st.Pool.Objects[0].Name, r.st.Root.Pages[0].Name
	strange := []api.Blob{
		{Name: "junk"}, {Name: "a", Blob: "b"}, {Name: "root "}, {Name: "Root"}, {Name: "\x00"},
		{Name: strings.Repeat("n", api.MaxLabel), Blob: strings.Repeat("b", api.MaxBlob)},
		{Name: row[:15], Blob: blobOf(t, blobs, row)}, {Name: row + "\x00", Blob: blobOf(t, blobs, row)},
		{Name: turned(page, 0), Blob: blobOf(t, blobs, page)}, {Name: r.st.Pool.Objects[0].Tag, Blob: blobOf(t, blobs, api.RootName)},
	}
	for n := range len(strange) + 1 {
		want := filledAudit()
		want.Foreign = n
		wantCheck(t, "objects beside", beside(blobs, strange[:n]...), k, r.s, six(), want, api.OK)
		wantCheck(t, "objects ahead", beside(strange[:n], blobs...), k, r.s, six(), want, api.OK)
	}
	want := filledAudit()
	want.Foreign, want.Objects, want.Missing = 1, 4, 1
	wantCheck(t, "a row under another name", beside(without(t, blobs, row), api.Blob{Name: "moved", Blob: blobOf(t, blobs, row)}), k, r.s, six(), want, api.OK)
}

// Of P21.2: the chapter's example 4, of each byte of the root and of the pages.
func TestRootAndPages(t *testing.T) {
	bothSealers(t, func(t *testing.T, s seal.Sealer) {
		r := filled(t, s)
		blobs, k := r.w.Dump(), r.w.Kept()
		pending := api.Register{Pending: k.Current}
		row := blobOf(t, blobs, r.st.Pool.Objects[0].Name)
		pages := r.st.Root.Pages
		for i, name := range []string{api.RootName, pages[0].Name, pages[1].Name} {
			blob := blobOf(t, blobs, name)
			others := []string{"", blob[:len(blob)-1], blob[1:], blob + "\x00", "\x00" + blob, blob[len(blob)-16:], row}
			for at := range len(blob) {
				others = append(others, turned(blob, at))
			}
			others = append(others, blobOf(t, blobs, []string{pages[0].Name, pages[1].Name, pages[0].Name}[i]))
			stores := [][]api.Blob{without(t, blobs, name)}
			for _, other := range others {
				stores = append(stores, with(t, blobs, name, other))
			}
			for _, store := range stores {
				wantCode(t, "away or another one", store, k, s, six(), api.ErrTampered)
				wantCode(t, "away or another one, Pending alone", store, pending, s, six(), api.ErrBlank)
			}
		}
	})
}

// Of P21.2: an older root is none that counts, though it was sealed.
func TestOlderRoot(t *testing.T) {
	r := made(t, six(), ideal(t))
	old, was := r.w.Dump(), r.w.Kept()
	r.batch(t, api.OK, create("/x"))
	k := r.w.Kept()
	wantCode(t, "the whole store is the old one", old, k, r.s, six(), api.ErrTampered)
	wantCode(t, "the root is the old one", with(t, r.w.Dump(), api.RootName, blobOf(t, old, api.RootName)), k, r.s, six(), api.ErrTampered)
	wantCode(t, "the register is the old one", r.w.Dump(), was, r.s, six(), api.ErrTampered)
	wantCheck(t, "both are the old ones", old, was, r.s, six(), api.Audit{Objects: 5, Pages: 2, Buckets: []int{16, 16, 16, 16, 16}}, api.OK)
	a, e := Check(r.w.Dump(), k, r.s, six())
	if e != api.OK || a.Files != 1 {
		t.Errorf("both are the new ones: %+v, %d", a, e)
	}
}

// Of P21.2: which tags a register may have.
func TestRegisters(t *testing.T) {
	r := filled(t, ideal(t))
	blobs, tag := r.w.Dump(), r.w.Kept().Current
	short := with(t, blobs, api.RootName, strings.Repeat("x", 15))
	for _, c := range []struct {
		what  string
		blobs []api.Blob
		r     api.Register
		e     api.Errno
	}{
		{"Current", blobs, api.Register{Current: tag}, api.OK},
		{"Pending", blobs, api.Register{Pending: tag}, api.OK},
		{"both", blobs, api.Register{Current: tag, Pending: tag}, api.OK},
		{"Current, another Pending", blobs, api.Register{Current: tag, Pending: otherTag}, api.OK},
		{"Pending, another Current", blobs, api.Register{Current: otherTag, Pending: tag}, api.OK},
		{"neither", blobs, api.Register{}, api.ErrBlank},
		{"another Current", blobs, api.Register{Current: otherTag}, api.ErrTampered},
		{"another Pending", blobs, api.Register{Pending: otherTag}, api.ErrBlank},
		{"two others", blobs, api.Register{Current: otherTag, Pending: otherTag}, api.ErrTampered},
		{"no objects, no tag", nil, api.Register{}, api.ErrBlank},
		{"no objects, Current", nil, api.Register{Current: tag}, api.ErrTampered},
		{"no objects, Pending", nil, api.Register{Pending: tag}, api.ErrBlank},
		{"no objects, both", nil, api.Register{Current: tag, Pending: otherTag}, api.ErrTampered},
		{"a root without a tag, Current", short, api.Register{Current: tag}, api.ErrTampered},
		{"a root without a tag, Pending", short, api.Register{Pending: tag}, api.ErrBlank},
		{"a root without a tag, no tag", short, api.Register{}, api.ErrBlank},
	} {
		want := filledAudit()
		if c.e != api.OK {
			want = api.Audit{}
		}
		wantCheck(t, c.what, c.blobs, c.r, r.s, six(), want, c.e)
		c.r.Stopped = true
		wantCode(t, c.what+", stopped", c.blobs, c.r, r.s, six(), api.ErrTampered)
	}
}

// Of P21.2: each error comes ahead of all that stand behind it.
func TestOrderOfErrors(t *testing.T) {
	r := filled(t, ideal(t))
	var noIdeal *seal.Ideal
	var noReal *seal.Real
	bad, other := six(), six()
	bad.Page, other.Least = 63, 17
	type args struct {
		blobs []api.Blob
		r     api.Register
		s     seal.Sealer
		c     api.Config
	}
	const ( // what the faults are of, in their order
		ofSealer = iota
		ofConfig
		ofObjects
		ofRegister
		ofMark
		ofTags
		ofRoot
		ofPages
	)
	faults := []struct {
		what string
		of   int
		e    api.Errno
		do   func(a *args)
	}{
		{"no sealer", ofSealer, api.ErrNil, func(a *args) { a.s = nil }},
		{"a nil ideal sealer", ofSealer, api.ErrNil, func(a *args) { a.s = noIdeal }},
		{"a nil real sealer", ofSealer, api.ErrNil, func(a *args) { a.s = noReal }},
		{"a zero sealer", ofSealer, api.ErrNil, func(a *args) { a.s = &seal.Real{} }},
		{"no configuration", ofConfig, api.ErrConfig, func(a *args) { a.c = bad }},
		{"a name twice", ofObjects, api.ErrArg, func(a *args) { a.blobs = beside(a.blobs, api.Blob{Name: "a"}, api.Blob{Name: "a"}) }},
		{"no name", ofObjects, api.ErrArg, func(a *args) { a.blobs = beside(a.blobs, api.Blob{}) }},
		{"a long name", ofObjects, api.ErrArg, func(a *args) { a.blobs = beside(a.blobs, api.Blob{Name: strings.Repeat("n", api.MaxLabel+1)}) }},
		{"a long blob", ofObjects, api.ErrBig, func(a *args) {
			a.blobs = beside(a.blobs, api.Blob{Name: "long", Blob: strings.Repeat("b", api.MaxBlob+1)})
		}},
		{"a short Current", ofRegister, api.ErrArg, func(a *args) { a.r.Current = otherTag[1:] }},
		{"a long Pending", ofRegister, api.ErrArg, func(a *args) { a.r.Pending = otherTag + "x" }},
		{"stopped", ofMark, api.ErrTampered, func(a *args) { a.r.Stopped = true }},
		{"no tag", ofTags, api.ErrBlank, func(a *args) { a.r.Current, a.r.Pending = "", "" }},
		{"no root", ofRoot, api.ErrTampered, func(a *args) { a.blobs = without(t, a.blobs, api.RootName) }},
		{"another vault", ofRoot, api.ErrConfig, func(a *args) { a.c = other }},
		{"no page", ofPages, api.ErrTampered, func(a *args) { a.blobs = without(t, a.blobs, r.st.Root.Pages[1].Name) }},
	}
	for i, first := range faults {
		a := args{r.w.Dump(), r.w.Kept(), r.s, six()}
		first.do(&a)
		wantCode(t, first.what, a.blobs, a.r, a.s, a.c, first.e)
		for _, next := range faults[i:] {
			if next.of == first.of {
				continue
			}
			a := args{r.w.Dump(), r.w.Kept(), r.s, six()}
			next.do(&a)
			first.do(&a)
			wantCode(t, first.what+" and "+next.what, a.blobs, a.r, a.s, a.c, first.e)
		}
	}
}

// Of P21.2: what Adopt says of the blobs is said of the first that may not be.
func TestOrderOfObjectsFaults(t *testing.T) {
	long := api.Blob{Name: "long", Blob: strings.Repeat("b", api.MaxBlob+1)}
	s := ideal(t)
	wantCode(t, "too long, then no name", []api.Blob{long, {}}, api.Register{}, s, six(), api.ErrBig)
	wantCode(t, "no name, then too long", []api.Blob{{}, long}, api.Register{}, s, six(), api.ErrArg)
	wantCode(t, "too long, then a register that may not be", []api.Blob{long}, api.Register{Current: "x"}, s, six(), api.ErrBig)
	wantCode(t, "objects and no vault", []api.Blob{{Name: "a"}, {Name: "b"}}, api.Register{}, s, six(), api.ErrBlank)
	wantCode(t, "an object twice", []api.Blob{{Name: "a"}, {Name: "a"}}, api.Register{}, s, six(), api.ErrArg)
}

// Of P21.2: what may be of a configuration, and what is another one.
func TestConfigurations(t *testing.T) {
	r := filled(t, ideal(t))
	for _, c := range []struct {
		change func(c *api.Config)
		e      api.Errno
	}{
		{func(c *api.Config) { c.Slots = 0 }, api.ErrConfig}, {func(c *api.Config) { c.Slots = 65 }, api.ErrConfig},
		{func(c *api.Config) { c.Files = 0 }, api.ErrConfig}, {func(c *api.Config) { c.Files = -1 }, api.ErrConfig},
		{func(c *api.Config) { c.Dirs = 4097 }, api.ErrConfig}, {func(c *api.Config) { c.MaxFile = -1 }, api.ErrConfig},
		{func(c *api.Config) { c.Least = 15 }, api.ErrConfig}, {func(c *api.Config) { c.Page = 65537 }, api.ErrConfig},
		{func(c *api.Config) { *c = api.Config{} }, api.ErrConfig},
		{func(c *api.Config) { c.Slots = 3 }, api.ErrConfig}, {func(c *api.Config) { c.Files = 4 }, api.ErrConfig},
		{func(c *api.Config) { c.Dirs = 3 }, api.ErrConfig}, {func(c *api.Config) { c.MaxFile = 101 }, api.ErrConfig},
		{func(c *api.Config) { c.Least = 17 }, api.ErrConfig}, {func(c *api.Config) { c.Page = 255 }, api.ErrConfig},
	} {
		other := six()
		c.change(&other)
		wantCode(t, "another configuration", r.w.Dump(), r.w.Kept(), r.s, other, c.e)
	}
	valid := six()
	valid.Least = 17
	wantCode(t, "the root is refused ahead of it", r.w.Dump(), api.Register{Current: otherTag}, r.s, valid, api.ErrTampered)
	broken := without(t, r.w.Dump(), r.st.Root.Pages[0].Name)
	wantCode(t, "a page is looked at behind it", broken, r.w.Kept(), r.s, valid, api.ErrConfig)
	wantCode(t, "of the one that is pending too", broken, api.Register{Pending: r.w.Kept().Current}, r.s, valid, api.ErrConfig)
}

// Of P21.2: whoever comes with another key.
func TestOtherSealers(t *testing.T) {
	r := filled(t, real(t))
	other := must[*seal.Real](t)(seal.NewReal(strings.Repeat("o", 32)))
	wantCode(t, "another key", r.w.Dump(), r.w.Kept(), other, six(), api.ErrTampered)
	wantCode(t, "an ideal one that sealed nothing", r.w.Dump(), r.w.Kept(), ideal(t), six(), api.ErrTampered)
	wantCode(t, "Pending alone", r.w.Dump(), api.Register{Pending: r.w.Kept().Current}, other, six(), api.ErrBlank)
	wantCheck(t, "the same key once more", r.w.Dump(), r.w.Kept(), real(t), six(), filledAudit(), api.OK)
}

// Of P21.3: an ideal sealer that lost some rows opens just the others.
func TestIdealSealerThatForgot(t *testing.T) {
	s := ideal(t).(*seal.Ideal)
	r := filled(t, s)
	for _, o := range r.st.Pool.Objects {
		rows := slices.DeleteFunc(s.Table(), func(row api.Sealed) bool { return seal.Tag(row.Blob) == o.Tag })
		want := filledAudit()
		want.Objects, want.Spoilt = 4, 1
		wantCheck(t, "a row was never sealed", r.w.Dump(), r.w.Kept(), must[*seal.Ideal](t)(seal.NewIdeal(rows)), six(), want, api.OK)
	}
}

// forged is a vault as whoever has the sealer may lay it: every part may be another one than the state says.
type forged struct {
	c     api.Config
	tree  api.TreeState
	table api.PoolState
	rows  []forgedBlob // of each row of the table
	pages []forgedBlob // the bodies are those of the state, unless they are set
	root  forgedBlob
	refs  func(refs []api.Ref) // what the root says of the pages
	said  func(o []api.Object) // what the table says of the rows behind the sealing
}

// forgedBlob is what is sealed: the kind that it is sealed under, the kind of its frame, its body, its size (0: without zeros).
type forgedBlob struct {
	seal, frame int
	body        string
	size        int
	set         bool   // the body is this one, whatever the state says
	name        string // that it is sealed under; "": its own
	raw         bool   // the body is sealed without a frame
}

func forge(c api.Config) *forged {
	f := &forged{c: c, tree: api.TreeState{Files: c.Files, Dirs: c.Dirs}, root: forgedBlob{seal: api.KindRoot, frame: api.KindRoot}}
	for i := range c.Files + c.Slots {
		f.table.Objects = append(f.table.Objects, api.Object{Name: someBytes(1000 + i)[:16], Owner: -1, Bucket: c.Least})
		f.table.Queue = append(f.table.Queue, i)
		f.rows = append(f.rows, forgedBlob{seal: api.KindData, frame: api.KindData, size: c.Least})
	}
	m, _ := index.Pages(c)
	for range m {
		f.pages = append(f.pages, forgedBlob{seal: api.KindPage, frame: api.KindPage, size: c.Page})
	}
	return f
}

// own gives a row a file that the tree has, or has not.
func (f *forged) own(row, file int) {
	f.table.Objects[row].Owner = file
	f.table.Queue = slices.DeleteFunc(f.table.Queue, func(i int) bool { return i == row })
}

func (f *forged) lay(t *testing.T, s seal.Sealer) ([]api.Blob, api.Register) {
	t.Helper()
	var blobs []api.Blob
	coins := must[*tape.Tape](t)(tape.New(longTape))
	put := func(name string, b forgedBlob) string {
		t.Helper()
		text := b.body
		if !b.raw {
			text = must[string](t)(frame.Pack(b.frame, b.body, max(b.size, frame.Head+len(b.body))))
		}
		under := b.name
		if under == "" {
			under = name
		}
		blob := must[string](t)(s.Seal(b.seal, under, text, must[string](t)(coins.Draw(s.Coins(len(text))))))
		blobs = append(blobs, api.Blob{Name: name, Blob: blob})
		return seal.Tag(blob)
	}
	for i, b := range f.rows {
		f.table.Objects[i].Tag = put(f.table.Objects[i].Name, b)
	}
	if f.said != nil {
		f.said(f.table.Objects)
	}
	bodies := must[[]string](t)(index.Encode(f.c, f.tree, f.table))
	var refs []api.Ref
	for i, b := range f.pages {
		if !b.set {
			b.body = bodies[i]
		}
		name := someBytes(2000 + i)[:16]
		refs = append(refs, api.Ref{Name: name, Tag: put(name, b)})
	}
	if f.refs != nil {
		f.refs(refs)
	}
	if !f.root.set {
		f.root.body = must[string](t)(index.EncodeRoot(f.c, api.Root{Config: f.c, Pages: refs}))
	}
	return blobs, api.Register{Current: put(api.RootName, f.root)}
}

// Of P21.3: which rows are right, where whoever has the sealer laid them.
func TestForgedRows(t *testing.T) {
	node := api.Node{Kind: api.IsFile, Number: 1, Name: "f", Size: 3}
	for _, c := range []struct {
		what   string
		change func(f *forged)
		spoilt int
	}{
		{"dummies", func(f *forged) {}, 0},
		{"a dummy with a body", func(f *forged) { f.rows[2].body = "x" }, 1},
		{"a frame without zeros", func(f *forged) { f.rows[2].size = 0 }, 0},
		{"a frame of another size than the bucket", func(f *forged) { f.rows[2].size = 999 }, 0},
		{"a frame of another kind", func(f *forged) { f.rows[2].frame = api.KindPage }, 1},
		{"sealed under another kind", func(f *forged) { f.rows[2].seal = api.KindPage }, 1},
		{"sealed and framed as a page", func(f *forged) { f.rows[2].seal, f.rows[2].frame = api.KindPage, api.KindPage }, 1},
		{"sealed under another name", func(f *forged) { f.rows[2].name = "other" }, 1},
		{"no frame", func(f *forged) { f.rows[2].raw, f.rows[2].body = true, "\x01\x00\x00\x00" }, 1},
		{"an empty text", func(f *forged) { f.rows[2].raw = true }, 1},
		{"a frame whose body is not all there", func(f *forged) { f.rows[2].raw, f.rows[2].body = true, "\x01\x00\x00\x00\x01" }, 1},
		{"a frame with no zeros behind", func(f *forged) { f.rows[2].raw, f.rows[2].body = true, "\x01\x00\x00\x00\x00x" }, 1},
		{"another tag", func(f *forged) { f.said = func(o []api.Object) { o[2].Tag = otherTag } }, 1},
		{"two tags swapped", func(f *forged) { f.said = func(o []api.Object) { o[2].Tag, o[3].Tag = o[3].Tag, o[2].Tag } }, 2},
		{"another bucket", func(f *forged) { f.said = func(o []api.Object) { o[2].Bucket = api.MaxBlob } }, 0},
		{"a file", func(f *forged) { f.tree.Nodes = []api.Node{node}; f.own(2, 1); f.rows[2].body = "abc" }, 0},
		{"a file, shorter", func(f *forged) { f.tree.Nodes = []api.Node{node}; f.own(2, 1); f.rows[2].body = "ab" }, 1},
		{"a file, longer", func(f *forged) { f.tree.Nodes = []api.Node{node}; f.own(2, 1); f.rows[2].body = "abcd" }, 1},
		{"a file, empty", func(f *forged) { f.tree.Nodes = []api.Node{node}; f.own(2, 1) }, 1},
		{"an empty file", func(f *forged) { node := node; node.Size = 0; f.tree.Nodes = []api.Node{node}; f.own(2, 1) }, 0},
		{"a file of another row", func(f *forged) { f.tree.Nodes = []api.Node{node}; f.own(2, 1); f.rows[3].body = "abc" }, 2},
		{"a file that has no row", func(f *forged) { f.tree.Nodes = []api.Node{node} }, 0},
		{"an owner that is no file", func(f *forged) { f.own(2, 1) }, 0},
		{"an owner that is no file, with a body", func(f *forged) { f.own(2, 1); f.rows[2].body = "abc" }, 1},
		{"an owner with the number of a directory", func(f *forged) {
			f.tree.Nodes = []api.Node{{Kind: api.IsDir, Number: 1, Name: "d"}}
			f.own(2, 1)
		}, 0},
	} {
		bothSealers(t, func(t *testing.T, s seal.Sealer) {
			f := forge(six())
			c.change(f)
			blobs, r := f.lay(t, s)
			a, e := Check(blobs, r, s, six())
			if e != api.OK || a.Spoilt != c.spoilt || a.Objects != 5-c.spoilt || a.Missing != 0 || a.Foreign != 0 {
				t.Errorf("%s: %+v, %d, want %d spoilt", c.what, a, e, c.spoilt)
			}
			want, code := plainCheck(blobs, r, s, six())
			if e != code || !sameAudit(a, want) {
				t.Errorf("%s: %+v, %d, by the document's words %+v, %d", c.what, a, e, want, code)
			}
		})
	}
}

// Of P21.3: a row that has the name of a page is looked at as a row, and is nobody's but the vault's.
func TestRowWithAPagesName(t *testing.T) {
	f := forge(six())
	var page string
	f.refs = func(refs []api.Ref) { page = refs[0].Name }
	f.lay(t, ideal(t))
	f = forge(six())
	f.said = func(o []api.Object) { o[2].Name = page }
	s := ideal(t)
	blobs, r := f.lay(t, s)
	want := api.Audit{Objects: 4, Pages: 2, Foreign: 1, Spoilt: 1, Buckets: []int{16, 16, 16, 16, 16}}
	wantCheck(t, "a row with a page's name", blobs, r, s, six(), want, api.OK)
}

// Of P21.2: roots and pages that are sealed, and are none.
func TestForgedRootAndPages(t *testing.T) {
	for _, c := range []struct {
		what   string
		change func(f *forged)
		ok     bool
	}{
		{"as it is", func(f *forged) {}, true},
		{"a root with zeros behind", func(f *forged) { f.root.size = 5000 }, true},
		{"a page with zeros behind", func(f *forged) { f.pages[1].size = 5000 }, true},
		{"a page without zeros behind", func(f *forged) { f.pages[1].size = 0 }, true},
		{"a root of another kind", func(f *forged) { f.root.seal = api.KindPage }, false},
		{"a root's frame of another kind", func(f *forged) { f.root.frame = api.KindPage }, false},
		{"a root under another name", func(f *forged) { f.root.name = "Root" }, false},
		{"a root that is no frame", func(f *forged) { f.root.set, f.root.raw, f.root.body = true, true, "R" }, false},
		{"a root that is none", func(f *forged) { f.root.set, f.root.body = true, "R" }, false},
		{"an empty root", func(f *forged) { f.root.set = true }, false},
		{"a page of another kind", func(f *forged) { f.pages[0].seal = api.KindData }, false},
		{"a page's frame of another kind", func(f *forged) { f.pages[1].frame = api.KindData }, false},
		{"a page under another name", func(f *forged) { f.pages[1].name = "other" }, false},
		{"a page that is no frame", func(f *forged) { f.pages[1].set, f.pages[1].raw, f.pages[1].body = true, true, "x" }, false},
		{"a page that is none", func(f *forged) { f.pages[1].set, f.pages[1].body = true, "x" }, false},
		{"a page with another tag", func(f *forged) { f.refs = func(refs []api.Ref) { refs[1].Tag = otherTag } }, false},
		{"a page that is not there", func(f *forged) { f.refs = func(refs []api.Ref) { refs[1].Name = otherTag } }, false},
		{"pages that are swapped", func(f *forged) { f.refs = func(refs []api.Ref) { refs[0], refs[1] = refs[1], refs[0] } }, false},
		{"a page twice", func(f *forged) { f.refs = func(refs []api.Ref) { refs[1] = refs[0] } }, false},
		{"no tree", func(f *forged) {
			f.tree.Nodes = []api.Node{{Kind: api.IsDir, Number: 1, Parent: 1, Name: "d"}}
		}, false},
		{"a name twice", func(f *forged) {
			f.tree.Nodes = []api.Node{{Kind: api.IsDir, Number: 1, Name: "d"}, {Kind: api.IsFile, Number: 0, Name: "d"}}
		}, false},
		{"no pool: a dummy out", func(f *forged) { f.table.Queue = f.table.Queue[1:] }, false},
		{"no pool: queued twice", func(f *forged) { f.table.Queue[1] = 0 }, false},
		{"no pool: two rows of a file", func(f *forged) { f.own(0, 1); f.own(1, 1) }, false},
		{"no pool: two rows of a name", func(f *forged) { f.said = func(o []api.Object) { o[1].Name = o[0].Name } }, false},
	} {
		bothSealers(t, func(t *testing.T, s seal.Sealer) {
			f := forge(six())
			c.change(f)
			blobs, r := f.lay(t, s)
			codes := [2]api.Errno{api.OK, api.OK}
			if !c.ok {
				codes = [2]api.Errno{api.ErrTampered, api.ErrBlank}
			}
			for i, reg := range []api.Register{r, {Pending: r.Current}} {
				a, e := Check(blobs, reg, s, six())
				if e != codes[i] || e != api.OK && !sameAudit(a, api.Audit{}) || e == api.OK && a.Objects != 5 {
					t.Errorf("%s: %+v, %d, want %d", c.what, a, e, codes[i])
				}
				if _, told := commit.Recover(must[*world.World](t)(world.Adopt(blobs, reg)), s, six()); told != e {
					t.Errorf("%s: %d, Recover answers %d", c.what, e, told)
				}
			}
		})
	}
}

// Of P21.2: a root of a configuration that may not be is none, and no other vault's.
func TestForgedRootConfig(t *testing.T) {
	s := ideal(t)
	f := forge(six())
	f.lay(t, s)
	body := []byte(f.root.body)
	body[4] = 3 // Slots
	for _, c := range []struct {
		least byte
		e     api.Errno
	}{{16, api.ErrConfig}, {15, api.ErrTampered}} {
		body[20] = c.least
		g := forge(six())
		g.root.set, g.root.body = true, string(body)
		s := ideal(t)
		blobs, r := g.lay(t, s)
		wantCode(t, "the root of another configuration", blobs, r, s, six(), c.e)
	}
}

// plainCheck does the chapter's words once more, from top to bottom, over lists that are gone through one by one.
func plainCheck(blobs []api.Blob, r api.Register, s seal.Sealer, c api.Config) (api.Audit, api.Errno) {
	st, e := plainState(blobs, r, s, c)
	if e != api.OK {
		return api.Audit{}, e
	}
	a := api.Audit{Pages: len(st.Root.Pages)}
	own := []string{api.RootName}
	for _, p := range st.Root.Pages {
		own = append(own, p.Name)
	}
	for _, o := range st.Pool.Objects {
		own = append(own, o.Name)
		a.Buckets = append(a.Buckets, o.Bucket)
		size := 0
		for _, n := range st.Tree.Nodes {
			if n.Kind == api.IsFile && n.Number == o.Owner {
				size = n.Size
			}
		}
		blob, there := plainGet(blobs, o.Name)
		body, ok := plainOpen(s, api.KindData, o.Name, blob)
		switch {
		case !there:
			a.Missing++
		case strings.HasSuffix(blob, o.Tag) && ok && len(body) == size:
			a.Objects++
		default:
			a.Spoilt++
		}
	}
	slices.Sort(a.Buckets)
	for _, b := range blobs {
		if !slices.Contains(own, b.Name) {
			a.Foreign++
		}
	}
	for _, n := range st.Tree.Nodes {
		switch n.Kind {
		case api.IsFile:
			a.Files, a.Bytes = a.Files+1, a.Bytes+n.Size
		case api.IsDir:
			a.Dirs++
		}
	}
	return a, api.OK
}

func plainState(blobs []api.Blob, r api.Register, s seal.Sealer, c api.Config) (api.State, api.Errno) {
	if s == nil || s.Coins(0) == 0 {
		return api.State{}, api.ErrNil
	}
	if e := index.Check(c); e != api.OK {
		return api.State{}, e
	}
	if _, e := world.Adopt(blobs, r); e != api.OK {
		return api.State{}, e
	}
	if r.Stopped {
		return api.State{}, api.ErrTampered
	}
	if r.Current == "" && r.Pending == "" {
		return api.State{}, api.ErrBlank
	}
	refused := api.ErrTampered
	if r.Current == "" {
		refused = api.ErrBlank
	}
	blob, _ := plainGet(blobs, api.RootName)
	isNew := r.Pending != "" && strings.HasSuffix(blob, r.Pending)
	isOld := r.Current != "" && strings.HasSuffix(blob, r.Current)
	body, ok := plainOpen(s, api.KindRoot, api.RootName, blob)
	if !isNew && !isOld || !ok {
		return api.State{}, refused
	}
	root, e := index.DecodeRoot(c, body)
	if e == api.ErrConfig {
		return api.State{}, e
	}
	if e != api.OK {
		return api.State{}, refused
	}
	var bodies []string
	for _, p := range root.Pages {
		blob, _ := plainGet(blobs, p.Name)
		body, ok := plainOpen(s, api.KindPage, p.Name, blob)
		if !strings.HasSuffix(blob, p.Tag) || !ok {
			return api.State{}, refused
		}
		bodies = append(bodies, body)
	}
	files, table, e := index.Decode(c, bodies)
	_, f := tree.Load(files, c.MaxFile)
	_, g := pool.Load(table, c.Files, c.Slots)
	if e != api.OK || f != api.OK || g != api.OK {
		return api.State{}, refused
	}
	return api.State{Tree: files, Pool: table, Root: root}, api.OK
}

func plainGet(blobs []api.Blob, name string) (string, bool) {
	for _, b := range blobs {
		if b.Name == name {
			return b.Blob, true
		}
	}
	return "", false
}

func plainOpen(s seal.Sealer, kind int, name, blob string) (string, bool) {
	text, e := s.Open(kind, name, blob)
	if e != api.OK || len(text) < 5 || int(text[0]) != kind {
		return "", false
	}
	n := int(text[1])<<24 | int(text[2])<<16 | int(text[3])<<8 | int(text[4])
	if n > len(text)-5 || strings.Trim(text[5+n:], "\x00") != "" {
		return "", false
	}
	return text[5 : 5+n], true
}

// foretells is P21.4: what Check says of a store is what Recover and batches come to.
func foretells(t *testing.T, what string, blobs []api.Blob, reg api.Register, s seal.Sealer, c api.Config) api.Audit {
	t.Helper()
	a, e := Check(blobs, reg, s, c)
	want, code := plainCheck(blobs, reg, s, c)
	if e != code || !sameAudit(a, want) {
		t.Fatalf("%s: %+v, %d, by the document's words %+v, %d", what, a, e, want, code)
	}
	r := &rig{c: c, w: must[*world.World](t)(world.Adopt(blobs, reg)), t: must[*tape.Tape](t)(tape.New(longTape[500000:])), s: again(t, s)}
	st, told := commit.Recover(r.w, r.s, c)
	if e == api.OK && a.Missing > 0 {
		e = api.ErrTampered
	}
	if told != e {
		t.Fatalf("%s: %d is foretold, Recover answers %d: %+v", what, e, told, a)
	}
	if e != api.OK {
		return a
	}
	if n := r.deletes(); n != a.Foreign {
		t.Fatalf("%s: %d Deletes are foretold, there are %d", what, a.Foreign, n)
	}
	r.st = st
	if found := r.readsAll(t, what); found != (a.Spoilt > 0) {
		t.Fatalf("%s: %d are spoilt, and batches that touch all tell %v", what, a.Spoilt, found)
	}
	return a
}

func (r *rig) deletes() int {
	n := 0
	for _, c := range r.w.Trace() {
		if c.Kind == api.CallDelete {
			n++
		}
	}
	return n
}

// readsAll reads every file and touches every dummy: whether one of the batches found something.
func (r *rig) readsAll(t *testing.T, what string) bool {
	t.Helper()
	paths := pathsOf(r.st.Tree)
	var batches [][]api.Op
	for _, n := range r.st.Tree.Nodes {
		if n.Kind == api.IsFile {
			batches = append(batches, []api.Op{read(paths[[2]int{n.Kind, n.Number}])})
		}
	}
	for range r.c.Files + r.c.Slots {
		batches = append(batches, nil)
	}
	for _, ops := range batches {
		st, results, e := commit.Batch(r.w, r.t, r.s, r.c, r.st, ops)
		if e == api.ErrTampered {
			return true
		}
		if e != api.OK {
			t.Fatalf("%s: a batch answers %d", what, e)
		}
		for _, result := range results {
			if result.Code != api.OK {
				t.Fatalf("%s: a read answers %d", what, result.Code)
			}
		}
		r.st = st
	}
	return false
}

// pathsOf is the path of each node, by its kind and number.
func pathsOf(s api.TreeState) map[[2]int]string {
	paths := map[[2]int]string{{api.IsDir, 0}: ""}
	for range s.Nodes {
		for _, n := range s.Nodes {
			if above, there := paths[[2]int{api.IsDir, n.Parent}]; there {
				paths[[2]int{n.Kind, n.Number}] = above + "/" + n.Name
			}
		}
	}
	return paths
}

// Of P21.3 and P21.4: the chapter's example 7, at every call at which the power may fail.
func TestBatchCutOff(t *testing.T) {
	bothSealers(t, func(t *testing.T, s seal.Sealer) {
		for fuse := range 14 { // two Gets, four Puts, Pend, the Put of root, Commit, four Deletes
			r := filled(t, s)
			s = ideal(t)
			if _, is := r.s.(*seal.Real); is {
				s = real(t)
			}
			r.w.Arm(fuse)
			want := api.ErrDown
			if fuse == 13 {
				want = api.OK
			}
			r.batch(t, want, write("/a/x", 20, "more"))
			r.w.Power()
			told := foretells(t, "a batch that was cut off", r.w.Dump(), r.w.Kept(), r.s, six())
			audit := filledAudit()
			if fuse >= 8 {
				audit.Bytes, audit.Buckets = 24, []int{16, 16, 16, 16, 30}
			}
			audit.Foreign = []int{0, 0, 0, 1, 2, 3, 4, 4, 4, 4, 3, 2, 1, 0}[fuse]
			if !sameAudit(told, audit) {
				t.Errorf("cut off behind %d calls: %+v, want %+v", fuse, told, audit)
			}
		}
	})
}

// Of P21.2 and P21.4: a Format that was cut off leaves a vault, or none.
func TestFormatCutOff(t *testing.T) {
	for fuse := range 13 { // Load, List, five Puts, two Puts, Pend, the Put of root, Commit
		r := blank(t, six(), ideal(t))
		r.w.Arm(fuse)
		e := commit.Format(r.w, r.t, r.s, r.c)
		r.w.Power()
		want, code := api.Audit{Objects: 5, Pages: 2, Buckets: []int{16, 16, 16, 16, 16}}, api.OK
		if fuse < 11 {
			want, code = api.Audit{}, api.ErrBlank
		}
		if e != api.ErrDown && fuse < 12 || e != api.OK && fuse == 12 {
			t.Fatalf("Format behind %d calls: %d", fuse, e)
		}
		wantCheck(t, "a Format that was cut off", r.w.Dump(), r.w.Kept(), r.s, six(), want, code)
		foretells(t, "a Format that was cut off", r.w.Dump(), r.w.Kept(), r.s, six())
	}
}

// Of P21.4: a Recover that was cut off leaves less to be swept.
func TestRecoverCutOff(t *testing.T) {
	for fuse := range 10 { // Load, three Gets, Commit, List, four Deletes
		r := filled(t, ideal(t))
		r.w.Arm(8)
		r.batch(t, api.ErrDown, write("/a/x", 0, "new"))
		r.w.Power()
		r.w.Arm(fuse)
		r.takeUp(t, api.ErrDown)
		r.w.Power()
		a := foretells(t, "a Recover that was cut off", r.w.Dump(), r.w.Kept(), r.s, six())
		if want := min(4, 10-fuse); a.Foreign != want {
			t.Errorf("cut off behind %d calls: %d foreign, want %d", fuse, a.Foreign, want)
		}
	}
}

// Of P21.4: behind a tampering that was found nothing is told but that.
func TestStoppedVault(t *testing.T) {
	r := filled(t, ideal(t))
	left := r.w.Dump()
	for _, o := range r.st.Pool.Objects {
		if e := r.w.Delete(o.Name); e != api.OK {
			t.Fatal(e)
		}
	}
	r.batch(t, api.ErrTampered)
	wantCode(t, "found", r.w.Dump(), r.w.Kept(), r.s, six(), api.ErrTampered)
	wantCode(t, "found, and all put back", left, r.w.Kept(), r.s, six(), api.ErrTampered)
}

// someOps is operations that may be refused or not.
func someOps(r *rand.Rand, count, most int) []api.Op {
	name := func() string {
		return []string{"/a", "/b", "/a/x", "/a/y", "/b/x", "/z"}[r.Intn(6)]
	}
	var ops []api.Op
	for range r.Intn(count + 1) {
		switch r.Intn(7) {
		case 0:
			ops = append(ops, mkdir(name()))
		case 1:
			ops = append(ops, create(name()))
		case 2, 3:
			ops = append(ops, write(name(), r.Intn(most), longTape[:r.Intn(most)]))
		case 4:
			ops = append(ops, cut(name(), r.Intn(most)))
		case 5:
			ops = append(ops, rename(name(), name()))
		default:
			ops = append(ops, remove(name()))
		}
	}
	return ops
}

// spoil does some of what whoever holds the store may do; past is blobs that lay there once.
func spoil(r *rand.Rand, blobs, past []api.Blob) []api.Blob {
	blobs = slices.Clone(blobs)
	for range r.Intn(4) {
		if len(blobs) == 0 {
			break
		}
		i, j := r.Intn(len(blobs)), r.Intn(len(blobs))
		switch r.Intn(8) {
		case 0:
			blobs = slices.Delete(blobs, i, i+1)
		case 1:
			if blobs[i].Blob != "" {
				blobs[i].Blob = turned(blobs[i].Blob, r.Intn(len(blobs[i].Blob)))
			}
		case 2:
			blobs[i].Blob, blobs[j].Blob = blobs[j].Blob, blobs[i].Blob
		case 3:
			blobs[i].Blob = blobs[j].Blob
		case 4:
			blobs[i].Blob = past[r.Intn(len(past))].Blob
		case 5:
			blobs[i].Blob = blobs[i].Blob[:r.Intn(len(blobs[i].Blob)+1)]
		default:
			old := past[r.Intn(len(past))]
			if _, there := plainGet(blobs, old.Name); !there {
				blobs = append(blobs, old)
			}
		}
	}
	return blobs
}

// Of P21.3 and P21.4: vaults of all kinds, cut off anywhere and changed anyhow.
func TestForetellsAtRandom(t *testing.T) {
	configs := []api.Config{six(), least(), {Slots: 3, Files: 4, Dirs: 3, MaxFile: 300, Least: 40, Page: 400}, {Slots: 1, Files: 2, Dirs: 1, MaxFile: 50, Least: 16, Page: 64}}
	rounds := 600
	if testing.Short() {
		rounds = 60
	}
	seen := map[string]int{}
	for seed := range rounds {
		rnd := rand.New(rand.NewSource(int64(seed)))
		s := ideal(t)
		if seed%8 == 7 {
			s = real(t)
		}
		c := configs[rnd.Intn(len(configs))]
		r := made(t, c, s)
		past := r.w.Dump()
		regs := []api.Register{r.w.Kept()}
		for range rnd.Intn(6) {
			r.batch(t, api.OK, someOps(rnd, c.Slots, c.MaxFile+1)...)
			past, regs = append(past, r.w.Dump()...), append(regs, r.w.Kept())
		}
		if rnd.Intn(2) == 0 {
			r.w.Arm(rnd.Intn(2*c.Slots + 2*len(r.st.Root.Pages) + 6))
			commit.Batch(r.w, r.t, r.s, c, r.st, someOps(rnd, c.Slots, c.MaxFile+1))
			r.w.Power()
		}
		blobs, k := r.w.Dump(), r.w.Kept()
		if rnd.Intn(4) > 0 {
			blobs = spoil(rnd, blobs, append(past, blobs...))
		}
		if rnd.Intn(10) == 0 {
			k = regs[rnd.Intn(len(regs))]
		}
		a := foretells(t, "at random", blobs, k, s, c)
		switch {
		case a.Pages == 0:
			seen["an error"]++
		case a.Missing > 0:
			seen["missing"]++
		case a.Spoilt > 0:
			seen["spoilt"]++
		case a.Foreign > 0:
			seen["foreign"]++
		default:
			seen["right"]++
		}
	}
	for _, what := range []string{"an error", "missing", "spoilt", "foreign", "right"} {
		if seen[what] < rounds/60 {
			t.Errorf("%s was seen %d times: the test says little", what, seen[what])
		}
	}
}

// Of P21.4: every byte of every file is the one that was written, where nothing is missing or spoilt.
func TestReadsByteByByte(t *testing.T) {
	bothSealers(t, func(t *testing.T, s seal.Sealer) {
		r := made(t, six(), s)
		held := map[string]string{"/x": longTape[:100], "/y": "y", "/z": ""}
		for path, data := range held {
			r.batch(t, api.OK, create(path), write(path, 0, data))
		}
		blobs := beside(r.w.Dump(), api.Blob{Name: "junk"})
		a := foretells(t, "three files", blobs, r.w.Kept(), s, six())
		if a.Bytes != 101 || a.Files != 3 || a.Missing+a.Spoilt != 0 {
			t.Fatalf("%+v", a)
		}
		w := must[*world.World](t)(world.Adopt(blobs, r.w.Kept()))
		st := must[api.State](t)(commit.Recover(w, s, six()))
		for path, data := range held {
			next, results, e := commit.Batch(w, r.t, s, six(), st, []api.Op{read(path)})
			if e != api.OK || results[0].Data != data {
				t.Errorf("%s: %d, %q, want %q", path, e, results[0].Data, data)
			}
			st = next
		}
	})
}

// Of P21.1: nothing that is handed in is changed, nor what lies behind it.
func TestNothingIsChanged(t *testing.T) {
	s := ideal(t).(*seal.Ideal)
	r := filled(t, s)
	blobs, k := r.w.Dump(), r.w.Kept()
	room := append(slices.Clone(blobs), api.Blob{Name: "behind", Blob: "it"}, api.Blob{Name: "and", Blob: "more"})
	given, was, rows, calls := room[:len(blobs)], slices.Clone(room), s.Table(), r.w.Calls()
	for _, stopped := range []bool{false, true} {
		k.Stopped = stopped
		Check(given, k, s, six())
		Check(given[:len(given)-1], k, s, six())
		Check(given, api.Register{}, s, six())
	}
	if !slices.Equal(room, was) {
		t.Error("the list, or what lies behind it, was changed")
	}
	if !slices.Equal(rows, s.Table()) {
		t.Error("something was sealed")
	}
	if r.w.Calls() != calls || r.w.Kept().Stopped || !slices.Equal(r.w.Dump(), blobs) {
		t.Error("the world was touched")
	}
}

// Of P21.1: an answer is new memory, its spare room too.
func TestNewMemory(t *testing.T) {
	r := filled(t, ideal(t))
	blobs, k := r.w.Dump(), r.w.Kept()
	first, _ := Check(blobs, k, r.s, six())
	second, _ := Check(blobs, k, r.s, six())
	whole := first.Buckets[:cap(first.Buckets)]
	for i := range whole {
		whole[i] = -1
	}
	_ = append(first.Buckets, -1)
	if !sameAudit(second, filledAudit()) {
		t.Errorf("%+v", second)
	}
	wantCheck(t, "once more", blobs, k, r.s, six(), filledAudit(), api.OK)
}

// Of P21.1: however goroutines run, the answer is the same one, and none of them is left.
func TestGoroutines(t *testing.T) {
	c := api.Config{Slots: 8, Files: 300, Dirs: 3, MaxFile: 300, Least: 16, Page: 4096}
	r := made(t, c, ideal(t))
	for i := range 20 {
		path := "/f" + string(rune('a'+i))
		r.batch(t, api.OK, create(path), write(path, 0, longTape[:i*15]))
	}
	blobs := r.w.Dump()
	for i, o := range r.st.Pool.Objects {
		if i%3 == 0 {
			blobs = with(t, blobs, o.Name, turned(blobOf(t, blobs, o.Name), 1))
		} else if i%7 == 0 {
			blobs = without(t, blobs, o.Name)
		}
	}
	want, code := plainCheck(blobs, r.w.Kept(), r.s, c)
	if code != api.OK || want.Spoilt < 90 || want.Missing < 20 || want.Files != 20 || want.Objects+want.Spoilt+want.Missing != 308 {
		t.Fatalf("%+v, %d", want, code)
	}
	before := runtime.NumGoroutine()
	for _, procs := range []int{1, 2, 8} {
		old := runtime.GOMAXPROCS(procs)
		for range 30 {
			wantCheck(t, "a great vault", blobs, r.w.Kept(), r.s, c, want, api.OK)
		}
		runtime.GOMAXPROCS(old)
	}
	// One that has told that it is done may still be on its way out.
	for range 100 {
		if runtime.NumGoroutine() <= before {
			return
		}
		time.Sleep(time.Millisecond)
	}
	t.Errorf("%d goroutines, there were %d", runtime.NumGoroutine(), before)
}

// Of P21.1: calls beside one another over one sealer do not see one another.
func TestCallsBesideOneAnother(t *testing.T) {
	bothSealers(t, func(t *testing.T, s seal.Sealer) {
		r := filled(t, s)
		blobs, k := r.w.Dump(), r.w.Kept()
		var all sync.WaitGroup
		for range 16 {
			all.Add(1)
			go func() {
				defer all.Done()
				if a, e := Check(blobs, k, s, six()); e != api.OK || !sameAudit(a, filledAudit()) {
					t.Errorf("%+v, %d", a, e)
				}
			}()
		}
		all.Wait()
	})
}

// strange is a sealer that is none of layer 8's.
type strange struct {
	seal.Sealer
	kind int // of which Open throws
}

func (s strange) Open(kind int, name, blob string) (string, api.Errno) {
	if kind == s.kind {
		panic("strange")
	}
	return s.Sealer.Open(kind, name, blob)
}

// Of P21.1: no panic, though a sealer throws.
func TestSealerThatThrows(t *testing.T) {
	r := filled(t, ideal(t))
	blobs, k := r.w.Dump(), r.w.Kept()
	bad := filledAudit()
	bad.Objects, bad.Spoilt = 0, 5
	wantCode(t, "no sealer within", blobs, k, strange{}, six(), api.ErrNil)
	wantCode(t, "at the root", blobs, k, strange{r.s, api.KindRoot}, six(), api.ErrTampered)
	wantCode(t, "at a page", blobs, k, strange{r.s, api.KindPage}, six(), api.ErrTampered)
	wantCheck(t, "at a row", blobs, k, strange{r.s, api.KindData}, six(), bad, api.OK)
}

// Of P21.1 and P21.3: the least vault, and one that has as many rows as the tests have time for.
func TestSizes(t *testing.T) {
	r := made(t, least(), ideal(t))
	r.batch(t, api.OK, create("/x"))
	m := must[int](t)(index.Pages(least()))
	wantCheck(t, "the least", r.w.Dump(), r.w.Kept(), r.s, least(), api.Audit{Objects: 2, Pages: m, Files: 1, Buckets: []int{16, 16}}, api.OK)

	c := api.Config{Slots: 64, Files: 20000, Dirs: 4096, MaxFile: 65536, Least: 16, Page: 65536}
	big := &rig{c: c, w: world.New(), t: must[*tape.Tape](t)(tape.New(someBytes(8 << 20))), s: ideal(t)}
	if e := commit.Format(big.w, big.t, big.s, c); e != api.OK {
		t.Fatal(e)
	}
	big.takeUp(t, api.OK)
	big.batch(t, api.OK, create("/x"), write("/x", 0, strings.Repeat("x", 65536)))
	a, e := Check(big.w.Dump(), big.w.Kept(), big.s, c)
	if e != api.OK || a.Objects != 20064 || a.Bytes != 65536 || len(a.Buckets) != 20064 || a.Buckets[20062] != 16 || a.Buckets[20063] < 65541 {
		t.Errorf("%d objects, %d bytes, %d buckets, %d", a.Objects, a.Bytes, len(a.Buckets), e)
	}
}
