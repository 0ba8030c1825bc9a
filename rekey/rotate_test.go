package rekey

import (
	"math/rand"
	"reflect"
	"slices"
	"strings"
	"testing"

	"casket/api"
	"casket/commit"
	"casket/index"
	"casket/seal"
)

// P25.3

func TestOrderOfTheCalls(t *testing.T) {
	for _, sort := range []int{idealIdeal, realReal, idealReal, realIdeal, oneIdeal, oneReal} {
		r := filled(t, sort)
		st, _ := r.whole(t, r.a)
		old := plainNames(st)
		from, drawn := r.w.Calls()+settleCalls, r.t.Drawn()
		r.rotate(t, api.OK)
		names, at := r.bytes[drawn:], drawn+7*16
		calls := r.w.Trace()[from:]
		for i := range 5 {
			if calls[i].Name != old[i] {
				t.Errorf("the Get %d is of %x, want %x", i, calls[i].Name, old[i])
			}
		}
		for i, size := range []int{st.Pool.Objects[0].Bucket, st.Pool.Objects[1].Bucket, st.Pool.Objects[2].Bucket, st.Pool.Objects[3].Bucket, st.Pool.Objects[4].Bucket, 256, 256, 96} {
			name := api.RootName
			if i < 7 {
				name = names[16*i : 16*i+16]
			}
			put := calls[5+i]
			if n := r.b.Coins(size); put.Name != name || len(put.Blob) != size+40 || put.Blob[:n] != r.bytes[at:at+n] {
				t.Errorf("the Put %d is of %x, %d bytes: %x", i, put.Name, len(put.Blob), put.Blob)
			}
			at += r.b.Coins(size)
		}
		for i := range 7 {
			if calls[13+i].Name != old[i] || calls[13+i].Code != api.OK {
				t.Errorf("the Delete %d: %+v, want %x", i, calls[13+i], old[i])
			}
		}
		if r.t.Drawn() != at || len(calls) != wholeCalls-settleCalls {
			t.Errorf("%d bytes were drawn, want %d; %d calls", r.t.Drawn()-drawn, at-drawn, len(calls))
		}
	}
}

// TestWhatStays: all of the state but for names and tags.
func TestWhatStays(t *testing.T) {
	for sort := range sorts {
		r := filled(t, sort)
		st, _ := r.whole(t, r.a)
		r.rotate(t, api.OK)
		next, held := r.whole(t, r.b)
		if !reflect.DeepEqual(held, filledHolds()) {
			t.Errorf("the vault holds %q", held)
		}
		all := plainNames(st)
		for i, o := range next.Pool.Objects {
			p := st.Pool.Objects[i]
			if o.Bucket != p.Bucket || o.Owner != p.Owner || o.Tag == p.Tag || slices.Contains(all, o.Name) {
				t.Errorf("row %d: %+v, was %+v", i, o, p)
			}
			all = append(all, o.Name)
		}
		if !reflect.DeepEqual(next.Tree, st.Tree) || !slices.Equal(next.Pool.Queue, st.Pool.Queue) || slices.Equal(st.Pool.Queue, []int{0, 1, 2, 3, 4}) {
			t.Errorf("%+v, %v, was %+v, %v", next.Tree, next.Pool.Queue, st.Tree, st.Pool.Queue)
		}
	}
}

// TestVaultGoesOn: batches behind a Rotate, and Rotates behind those, to and fro.
func TestVaultGoesOn(t *testing.T) {
	for _, sort := range []int{idealIdeal, realReal, idealReal} {
		r := filled(t, sort)
		for i := range 6 {
			r.rotate(t, api.OK)
			l := r.batch(t, r.b, write("/d/f", strings.Repeat("x", 10+10*i)), read("/g"))
			if l[0].Code != api.OK || l[1].Data != strings.Repeat("g", 60) {
				t.Errorf("round %d: %+v", i, l)
			}
			_, held := r.whole(t, r.b)
			if want := map[string]string{"/d": "dir", "/d/f": "file " + strings.Repeat("x", 10+10*i), "/g": "file " + strings.Repeat("g", 60)}; !reflect.DeepEqual(held, want) {
				t.Errorf("round %d: the vault holds %q", i, held)
			}
			r.a, r.b = r.b, r.a
		}
	}
}

// watcher notes what is sealed, and how many store calls were made by then.
type watcher struct {
	seal.Sealer
	calls func() int
	kinds []int
	names []string
	when  []int
}

func (s *watcher) Seal(kind int, name, text, coins string) (string, api.Errno) {
	s.kinds, s.names, s.when = append(s.kinds, kind), append(s.names, name), append(s.when, s.calls())
	return s.Sealer.Seal(kind, name, text, coins)
}

func TestAllIsSealedFirst(t *testing.T) {
	r := filled(t, idealIdeal)
	from, to := &watcher{Sealer: r.a, calls: r.w.Calls}, &watcher{Sealer: r.b, calls: r.w.Calls}
	r.a, r.b = from, to
	behind := r.w.Calls() + settleCalls + 5
	r.rotate(t, api.OK)
	if !slices.Equal(to.kinds, []int{1, 1, 1, 1, 1, 2, 2, 3}) || !slices.Equal(to.when, slices.Repeat([]int{behind}, 8)) || len(from.kinds) != 0 {
		t.Errorf("to seals %v behind %v calls, from %v", to.kinds, to.when, from.kinds)
	}
	st := r.takeUp(t, r.b)
	if want := append(plainNames(st), api.RootName); !slices.Equal(to.names, want) {
		t.Errorf("to seals under %q, want %q", to.names, want)
	}
}

func TestNamesAreDrawnAgain(t *testing.T) {
	for _, ideal := range []bool{true, false} {
		sort := idealReal
		if ideal {
			sort = idealIdeal
		}
		r := filled(t, sort)
		st, _ := r.whole(t, r.a)
		old := plainNames(st) // those of rows and of pages
		a, b, rest := sixteen("a"), sixteen("b"), longTape[100000:]
		r.w.Put(sixteen("x"), "x") // no name of the state: it is swept
		r.setTape(t, strings.Join(old, "")+a+a+old[6]+b+a+b+sixteen("x")+old[0]+rest)
		from := r.w.Calls()
		r.rotate(t, api.OK)
		r.wantCalls(t, from, "G*G*GGLDGGGGGPPPPPPPP*DDDDDDD")
		next, _ := r.whole(t, r.b)
		if want := []string{a, b, sixteen("x"), rest[:16], rest[16:32], rest[32:48], rest[48:64]}; !slices.Equal(plainNames(next), want) {
			t.Errorf("the names are %q, want %q", plainNames(next), want)
		}
		// The names that the Rotate has given up are nobody's.
		r.a, r.b = r.b, mustIdeal(t, nil)
		r.setTape(t, strings.Join(old, "")+rest)
		r.rotate(t, api.OK)
		if next, _ = r.whole(t, r.b); !slices.Equal(plainNames(next), old) {
			t.Errorf("the names are %q, want %q", plainNames(next), old)
		}
	}
}

func TestNamesToTheTapesEnd(t *testing.T) {
	r := filled(t, idealIdeal)
	st, _ := r.whole(t, r.a)
	r.setTape(t, strings.Repeat(strings.Join(plainNames(st), ""), 20))
	from := r.w.Calls()
	r.rotate(t, api.ErrEntropy)
	r.wantCalls(t, from, settled)
	r.setTape(t, strings.Repeat(sixteen("x"), 100))
	r.rotate(t, api.ErrEntropy)
	r.whole(t, r.a)
}

// TestCoinsAreDrawnAgain: by the word of to, and where the call's own coins have their last sixteen bytes; not by the word of
// from.
func TestCoinsAreDrawnAgain(t *testing.T) {
	r := made(t, six(), idealIdeal) // all frames of rows have 16 bytes
	stale := longTape[150000:150056]
	if _, e := r.b.Seal(api.KindData, "n", strings.Repeat("x", 16), stale); e != api.OK {
		t.Fatalf("Seal: %d", e)
	}
	names, rest := longTape[170000:170112], longTape[180000:]
	first := rest[:56]
	twice := strings.Repeat(".", 40) + rest[40:56]
	page, root := strings.Repeat("p", 280)+rest[40:56], strings.Repeat("r", 120)+stale[40:]
	known := rest[56:112]
	if _, e := r.a.Seal(api.KindData, "n", strings.Repeat("x", 16), known); e != api.OK {
		t.Fatalf("Seal: %d", e)
	}
	r.setTape(t, names+stale+first+twice+known+rest[112:280]+page+rest[280:872]+root+rest[872:])
	r.rotate(t, api.OK)
	if want := 7*16 + 5*56 + 2*296 + 136 + 56 + 56 + 296 + 136; r.t.Drawn() != want {
		t.Errorf("%d bytes were drawn, want %d", r.t.Drawn(), want)
	}
	next, _ := r.whole(t, r.b)
	objects := r.objects()
	for i, want := range []string{first, known, rest[112:168], rest[168:224], rest[224:280], rest[280:576], rest[576:872], rest[872:1008]} {
		if name := append(plainNames(next), api.RootName)[i]; objects[name] != want {
			t.Errorf("the coins %d: %x, want %x", i, objects[name], want)
		}
	}
}

// TestCoinsOfTheRealSealer: they are 24 bytes each, and no two have one last sixteen bytes.
func TestCoinsOfTheRealSealer(t *testing.T) {
	r := filled(t, idealReal)
	r.setTape(t, longTape[120000:120112]+"12345678"+sixteen("c")+"87654321"+sixteen("c")+longTape[1000:])
	from := r.w.Calls() + settleCalls + 5
	r.rotate(t, api.OK)
	if r.t.Drawn() != 7*16+9*24 {
		t.Errorf("%d bytes were drawn", r.t.Drawn())
	}
	puts := r.w.Trace()[from:]
	if puts[0].Blob[:24] != "12345678"+sixteen("c") || puts[1].Blob[:24] != longTape[1000:1024] || puts[7].Blob[:24] != longTape[1144:1168] {
		t.Error("other coins than those of the tape")
	}
}

// TestDryTape: of whatever length, the vault is as Recover left it.
func TestDryTape(t *testing.T) {
	for _, sort := range []int{idealIdeal, realReal, oneIdeal, oneReal} {
		start := filled(t, sort)
		next := start.twin(t)
		next.rotate(t, api.OK)
		need, tag := next.t.Drawn(), start.w.Kept().Current
		for n := range need + 2 {
			if n > 150 && n < need-100 && n%7 > 0 {
				continue
			}
			r := start.with(t, api.Register{Current: tag, Pending: sixteen("o")})
			r.setTape(t, start.bytes[start.t.Drawn():][:n])
			r.w.Put("more", "x")
			rows := len(tableOf(r.b))
			if n >= need {
				r.rotate(t, api.OK)
				if r.t.Left() != n-need {
					t.Errorf("%d bytes: %d are left", n, r.t.Left())
				}
				continue
			}
			r.rotate(t, api.ErrEntropy)
			r.wantCalls(t, 1, "G*G*GGLD")
			if r.t.Left() != 0 || len(tableOf(r.b)) != rows || r.w.Kept() != (api.Register{Current: tag}) || !slices.Equal(r.w.Dump(), start.w.Dump()) {
				t.Errorf("%d bytes: %d are left, the register %+v", n, r.t.Left(), r.w.Kept())
			}
			r.settle(t, 1, api.OK)
		}
	}
}

// forge is a vault that is laid by hand, with from's own word: what a Rotate must look at may be wrong in it.
type forge struct {
	r  *rig
	st api.State
	at int // how much of the tape was taken for coins
}

func newForge(t *testing.T) *forge {
	t.Helper()
	f := &forge{r: filled(t, idealIdeal), at: 100000}
	f.st, _ = f.r.whole(t, f.r.a)
	return f
}

// seal is a blob of a text under the kind and the name, whatever they are.
func (f *forge) seal(t *testing.T, s seal.Sealer, kind int, name, text string) string {
	t.Helper()
	n := s.Coins(len(text))
	b, e := s.Seal(kind, name, text, longTape[f.at:f.at+n])
	if e != api.OK {
		t.Fatalf("Seal: %d", e)
	}
	f.at += n
	return b
}

// layRow lays a blob as a row's object, and its tag into the table.
func (f *forge) layRow(t *testing.T, row int, blob string) {
	t.Helper()
	o := &f.st.Pool.Objects[row]
	f.r.lay(t, o.Name, blob)
	o.Tag = plainTag(blob)
}

// layState seals the pages and the root anew: so that the vault is taken up as it says.
func (f *forge) layState(t *testing.T) *rig {
	t.Helper()
	bodies, e := index.Encode(f.r.c, f.st.Tree, f.st.Pool)
	if e != api.OK {
		t.Fatalf("index.Encode: %d", e)
	}
	for i, body := range bodies {
		p := &f.st.Root.Pages[i]
		b := f.seal(t, f.r.a, api.KindPage, p.Name, plainPack(api.KindPage, body, 256))
		f.r.lay(t, p.Name, b)
		p.Tag = plainTag(b)
	}
	body, e := index.EncodeRoot(f.r.c, f.st.Root)
	if e != api.OK {
		t.Fatalf("index.EncodeRoot: %d", e)
	}
	root := f.seal(t, f.r.a, api.KindRoot, api.RootName, plainPack(api.KindRoot, body, 96))
	f.r.lay(t, api.RootName, root)
	return f.r.with(t, api.Register{Current: plainTag(root)})
}

// rowOf is the row that holds the file, -1: a dummy that is the last one.
func (f *forge) rowOf(file int) int {
	row := 0
	for i, o := range f.st.Pool.Objects {
		if o.Owner == file {
			row = i
		}
	}
	return row
}

// TestRotateLooksAtEachObject: what is wrong with a row's object is found behind its Get, and the vault is stopped.
func TestRotateLooksAtEachObject(t *testing.T) {
	for _, file := range []int{0, 1, -1} { // "grain", 60 times g, a dummy
		body := []string{"", "grain", strings.Repeat("g", 60)}[file+1]
		for _, x := range []struct {
			what string
			lay  func(f *forge, row int, o api.Object)
		}{
			{"an empty blob", func(f *forge, row int, o api.Object) { f.r.lay(t, o.Name, "") }},
			{"the tag alone", func(f *forge, row int, o api.Object) { f.r.lay(t, o.Name, o.Tag) }},
			{"another tag, of the same text", func(f *forge, row int, o api.Object) {
				f.r.lay(t, o.Name, f.seal(t, f.r.a, api.KindData, o.Name, plainPack(api.KindData, body, o.Bucket)))
			}},
			{"another byte ahead of the tag", func(f *forge, row int, o api.Object) { f.r.spoil(t, o.Name, 0) }},
			{"sealed as a page", func(f *forge, row int, o api.Object) {
				f.layRow(t, row, f.seal(t, f.r.a, api.KindPage, o.Name, plainPack(api.KindData, body, o.Bucket)))
			}},
			{"sealed as a root", func(f *forge, row int, o api.Object) {
				f.layRow(t, row, f.seal(t, f.r.a, api.KindRoot, o.Name, plainPack(api.KindData, body, o.Bucket)))
			}},
			{"sealed under another name", func(f *forge, row int, o api.Object) {
				f.layRow(t, row, f.seal(t, f.r.a, api.KindData, sixteen("n"), plainPack(api.KindData, body, o.Bucket)))
			}},
			{"sealed by to", func(f *forge, row int, o api.Object) {
				f.layRow(t, row, f.seal(t, f.r.b, api.KindData, o.Name, plainPack(api.KindData, body, o.Bucket)))
			}},
			{"no frame", func(f *forge, row int, o api.Object) {
				f.layRow(t, row, f.seal(t, f.r.a, api.KindData, o.Name, ""))
			}},
			{"a page's frame", func(f *forge, row int, o api.Object) {
				f.layRow(t, row, f.seal(t, f.r.a, api.KindData, o.Name, plainPack(api.KindPage, body, o.Bucket)))
			}},
			{"a frame with something behind it", func(f *forge, row int, o api.Object) {
				f.layRow(t, row, f.seal(t, f.r.a, api.KindData, o.Name, plainPack(api.KindData, body, o.Bucket)+"x"))
			}},
			{"a byte more", func(f *forge, row int, o api.Object) {
				f.layRow(t, row, f.seal(t, f.r.a, api.KindData, o.Name, plainPack(api.KindData, body+"x", o.Bucket+1)))
			}},
			{"another length", func(f *forge, row int, o api.Object) {
				f.layRow(t, row, f.seal(t, f.r.a, api.KindData, o.Name, plainPack(api.KindData, "xyzzy!!", o.Bucket)))
			}},
		} {
			f := newForge(t)
			row := f.rowOf(file)
			x.lay(f, row, f.st.Pool.Objects[row])
			r := f.layState(t)
			rows, drawn := len(tableOf(r.b)), r.t.Drawn()
			r.rotate(t, api.ErrTampered)
			r.wantCalls(t, 0, settled+"GGGGG"[:row+1])
			if len(tableOf(r.b)) != rows || r.t.Drawn() == drawn {
				t.Errorf("%s: something was sealed, or nothing drawn", x.what)
			}
			r.wantStopped(t)
			r = f.r.with(t, api.Register{Current: plainTag(r.objects()[api.RootName])})
			r.w.Arm(2 + settleCalls + row + 1) // two Loads; Stop finds the power off
			r.rotate(t, api.ErrDown)
			if r.w.Kept().Stopped || r.calls(0) != settled+"GGGGG"[:row+1] {
				t.Errorf("%s: %+v, %q where Stop finds the power off", x.what, r.w.Kept(), r.calls(0))
			}
		}
	}
}

// TestRotateMissesAnObject: that is taken away behind the List.
func TestRotateMissesAnObject(t *testing.T) {
	start := filled(t, idealIdeal)
	names := plainNames(start.takeUp(t, start.a))
	for row := range 5 {
		put := slices.IndexFunc(start.puts(), func(c api.Call) bool { return c.Name == names[row] })
		for ahead := range 5 {
			r := filled(t, idealIdeal)
			from := r.w.Calls()
			r.w.Plan(api.Edit{Before: from + settleCalls + ahead, Kind: api.EditDrop, Put: put})
			if ahead > row {
				r.rotate(t, api.OK)
				r.whole(t, r.b)
				continue
			}
			r.rotate(t, api.ErrTampered)
			r.wantCalls(t, from, settled+"GGGGG"[:row+1])
			r.wantStopped(t)
		}
	}
}

func (r *rig) puts() []api.Call {
	return slices.DeleteFunc(r.w.Trace(), func(c api.Call) bool { return c.Kind != api.CallPut })
}

// TestRotateTakesFramesOfAnySize: what is put anew has the bucket that the table says.
func TestRotateTakesFramesOfAnySize(t *testing.T) {
	for _, size := range []int{0, 3, 200} { // zeros behind the body
		f := newForge(t)
		for _, file := range []int{0, 1, -1} {
			body := []string{"", "grain", strings.Repeat("g", 60)}[file+1]
			row := f.rowOf(file)
			f.layRow(t, row, f.seal(t, f.r.a, api.KindData, f.st.Pool.Objects[row].Name, plainPack(api.KindData, body, 5+len(body)+size)))
		}
		r := f.layState(t)
		r.rotate(t, api.OK)
		if _, held := r.whole(t, r.b); !reflect.DeepEqual(held, filledHolds()) {
			t.Errorf("the vault holds %q", held)
		}
	}
}

// TestBucketsThatAreGreaterThanNeeded: the bucket that a row had stays, not the one that its content asks for.
func TestBucketsThatAreGreaterThanNeeded(t *testing.T) {
	f := newForge(t)
	for i := range f.st.Pool.Objects {
		f.st.Pool.Objects[i].Bucket += 100 * (i + 1)
	}
	r := f.layState(t)
	r.rotate(t, api.OK)
	next, held := r.whole(t, r.b)
	for i, o := range next.Pool.Objects {
		if o.Bucket != f.st.Pool.Objects[i].Bucket || len(r.objects()[o.Name]) != o.Bucket+40 {
			t.Errorf("row %d: %+v", i, o)
		}
	}
	if !reflect.DeepEqual(held, filledHolds()) {
		t.Errorf("the vault holds %q", held)
	}
}

// TestStatesThatNobodySeals: what a Rotate answers is not said, but that it ends and does not panic.
func TestStatesThatNobodySeals(t *testing.T) {
	for _, change := range []func(f *forge){
		func(f *forge) { f.st.Pool.Objects[f.rowOf(1)].Bucket = 0 },
		func(f *forge) { f.st.Pool.Objects[f.rowOf(-1)].Bucket = 4 },
		func(f *forge) { f.st.Pool.Objects[f.rowOf(0)].Bucket = api.MaxBlob },
		func(f *forge) { f.st.Tree.Nodes = nil },
		func(f *forge) { f.st.Pool.Objects[f.rowOf(0)].Owner = 2 },
		func(f *forge) { f.st.Tree.Nodes[1].Size = 6 },
	} {
		for _, bytes := range []string{longTape, strings.Repeat(longTape, 20)} {
			f := newForge(t)
			change(f)
			r := f.layState(t)
			r.setTape(t, bytes)
			Rotate(r.w, r.t, r.a, r.b, r.c)
		}
	}
}

// TestDeletesLetGo: what another hand has taken away ahead of a Delete is away.
func TestDeletesLetGo(t *testing.T) {
	start := filled(t, idealIdeal)
	names := plainNames(start.takeUp(t, start.a))
	r := filled(t, idealIdeal)
	from := r.w.Calls()
	for i, name := range names {
		put := slices.IndexFunc(start.puts(), func(c api.Call) bool { return c.Name == name })
		r.w.Plan(api.Edit{Before: from + wholeCalls - 7 + i, Kind: api.EditDrop, Put: put})
	}
	r.rotate(t, api.OK)
	r.wantCalls(t, from, whole)
	for _, x := range r.w.Trace()[from+wholeCalls-7:] {
		if x.Code != api.ErrNone {
			t.Errorf("a Delete that was done already: %+v", x)
		}
	}
	r.whole(t, r.b)
}

// The document's words done once more, in step with the program.

// pair is two rigs to which the same is done: on one the program works, on the other the words.
type pair struct {
	is, want *rig
	count    drawn
	codes    map[api.Errno]int
	sides    [3]int
}

func newPair(t *testing.T, r *rand.Rand) *pair {
	t.Helper()
	c, sort, bytes := someConfig(r), r.Intn(sorts), someBytes(8000+r.Intn(40000))
	if r.Intn(2) == 0 {
		bytes = againAndAgain(r, 8000+r.Intn(40000))
	}
	p := &pair{codes: map[api.Errno]int{}}
	for _, x := range []**rig{&p.is, &p.want} {
		*x = blank(t, c, sort)
		(*x).setTape(t, bytes)
	}
	fuse := -1
	if r.Intn(4) == 0 {
		fuse = r.Intn(30)
	}
	p.both(func(x *rig) {
		x.w.Arm(fuse)
		commit.Format(x.w, x.t, x.a, x.c)
	})
	return p
}

func (p *pair) both(do func(x *rig)) {
	do(p.is)
	do(p.want)
}

func (p *pair) compare(t *testing.T, what string, is, want api.Errno) {
	t.Helper()
	a, b := p.is, p.want
	if is != want {
		t.Fatalf("%s: %d, want %d", what, is, want)
	}
	if !slices.EqualFunc(a.w.Trace(), b.w.Trace(), sameCall) || a.w.Kept() != b.w.Kept() || a.w.Down() != b.w.Down() || !slices.Equal(a.w.Dump(), b.w.Dump()) {
		t.Fatalf("%s: another trace, register or store: %q, want %q", what, a.calls(0), b.calls(0))
	}
	if a.t.Drawn() != b.t.Drawn() || a.t.Left() != b.t.Left() {
		t.Fatalf("%s: %d bytes were drawn, want %d", what, a.t.Drawn(), b.t.Drawn())
	}
	if !slices.Equal(tableOf(a.a), tableOf(b.a)) || !slices.Equal(tableOf(a.b), tableOf(b.b)) {
		t.Fatalf("%s: another table of a sealer", what)
	}
	p.codes[is]++
}

func (p *pair) step(t *testing.T, r *rand.Rand) {
	t.Helper()
	a, b := p.is, p.want
	c := a.c
	if r.Intn(30) == 0 {
		c.Least++
	}
	switch r.Intn(10) {
	case 0, 1, 2:
		e := Rotate(a.w, a.t, a.a, a.b, c)
		p.compare(t, "Rotate", e, plainRotate(b.w, b.t, b.a, b.b, c, &p.count))
	case 3, 4:
		n, e := Settle(a.w, a.a, a.b, c)
		m, _, f := plainSettle(b.w, b.a, b.b, c)
		if n != m {
			t.Fatalf("Settle: %d, want %d", n, m)
		}
		p.sides[n]++
		p.compare(t, "Settle", e, f)
	case 5: // a batch under the sealer that the vault is under
		ops := someOps(r, a.c)
		p.both(func(x *rig) {
			n, st, e := plainSettle(x.w, x.a, x.b, x.c)
			if e == api.OK {
				commit.Batch(x.w, x.t, []seal.Sealer{x.a, x.b}[n-1], x.c, st, ops)
			}
		})
	case 6:
		p.both(func(x *rig) { x.a, x.b = x.b, x.a })
	case 7, 8:
		k, arm, power := r.Intn(60), r.Intn(2) == 0, r.Intn(3) > 0
		p.both(func(x *rig) {
			if power {
				x.w.Power()
			}
			if arm {
				x.w.Arm(k)
			}
		})
	case 9:
		e, plan := someEdit(r, a.w, 20), r.Intn(6) == 0
		p.both(func(x *rig) {
			if plan {
				x.w.Plan(e)
			}
		})
	}
}

func TestInStepWithTheWords(t *testing.T) {
	r := rand.New(rand.NewSource(25))
	codes, again, sides := map[api.Errno]int{}, drawn{}, [3]int{}
	for range 500 {
		p := newPair(t, r)
		for range 40 {
			p.step(t, r)
		}
		for e, n := range p.codes {
			codes[e] += n
		}
		for i, n := range p.sides {
			sides[i] += n
		}
		again.names, again.coins = again.names+p.count.names, again.coins+p.count.coins
	}
	for _, e := range []api.Errno{api.OK, api.ErrEntropy, api.ErrDown, api.ErrConfig, api.ErrTampered, api.ErrBlank} {
		if codes[e] < 10 {
			t.Errorf("the error %d came up %d times: too few to say something", e, codes[e])
		}
	}
	if codes[api.OK] < 1000 || again.names < 300 || again.coins < 200 || sides[1] < 300 || sides[2] < 300 {
		t.Errorf("%d calls, %+v drawn again, the sides %v: too few to say something", codes[api.OK], again, sides)
	}
}

// P25.6

func TestShape(t *testing.T) {
	r := rand.New(rand.NewSource(6))
	for range 60 {
		c, sort := someConfig(r), r.Intn(sorts)
		x := made(t, c, sort)
		for range r.Intn(8) {
			x.batch(t, x.a, someOps(r, c)...)
		}
		rows, m, from := c.Files+c.Slots, pagesOf(t, c), x.w.Calls()
		x.rotate(t, api.OK)
		n := rows + m
		x.wantCalls(t, from, "G*G*"+strings.Repeat("G", m)+"L"+strings.Repeat("G", rows)+strings.Repeat("P", n+1)+"*"+strings.Repeat("D", n))
		x.whole(t, x.b)
	}
}

// TestLengthsHangOnTheBucketsAlone: two vaults that hold unlike things of like sizes.
func TestLengthsHangOnTheBucketsAlone(t *testing.T) {
	for sort := range sorts {
		var lengths [][]int
		for _, x := range []struct{ dir, file, data string }{{"/d", "/d/f", "grain"}, {"/directory", "/file", "corn"}, {"/e", "/e/f", ""}} {
			r := made(t, six(), sort)
			r.batch(t, r.a, mkdir(x.dir), create(x.file))
			r.batch(t, r.a, write(x.file, x.data))
			r.rotate(t, api.OK)
			var l []int
			for _, c := range r.w.Trace() {
				l = append(l, c.Kind, len(c.Name), len(c.Blob), len(c.Reply), len(c.Names))
			}
			lengths = append(lengths, l)
		}
		if !slices.Equal(lengths[0], lengths[1]) || !slices.Equal(lengths[0], lengths[2]) {
			t.Errorf("sort %d: the lengths are others", sort)
		}
	}
}

// TestTraceSaysNothing: over ideal sealers the traces of two such vaults are one, byte by byte.
func TestTraceSaysNothing(t *testing.T) {
	var traces [][]api.Call
	for _, x := range []struct{ file, data string }{{"/f", "grain"}, {"/other", "corn"}} {
		r := made(t, six(), idealIdeal)
		r.batch(t, r.a, create(x.file), write(x.file, x.data))
		r.rotate(t, api.OK)
		r.settle(t, 2, api.OK)
		traces = append(traces, r.w.Trace())
	}
	if !slices.EqualFunc(traces[0], traces[1], sameCall) {
		t.Error("the traces are others")
	}
}

func TestLeast(t *testing.T) {
	for sort := range sorts {
		r := made(t, least(), sort)
		r.rotate(t, api.OK)
		r.batch(t, r.b, create("/f"))
		r.a, r.b = r.b, r.a
		r.rotate(t, api.OK)
		if _, held := r.whole(t, r.b); !reflect.DeepEqual(held, map[string]string{"/f": "file "}) {
			t.Errorf("the vault holds %q", held)
		}
	}
}

// TestGreatest: as many rows as may be, and files of as many bytes.
func TestGreatest(t *testing.T) {
	c := api.Config{Slots: api.MaxSlots, Files: api.MaxFiles, Dirs: 1, MaxFile: api.MaxFile, Least: 16, Page: api.MaxPage}
	r := blank(t, c, realReal)
	r.setTape(t, someBytes(16<<20))
	if e := commit.Format(r.w, r.t, r.a, r.c); e != api.OK {
		t.Fatalf("Format: %d", e)
	}
	ops := []api.Op{mkdir("/d")}
	for i := range 20 {
		path := "/d/" + string(rune('a'+i))
		ops = append(ops, create(path), write(path, strings.Repeat("x", api.MaxFile-i)))
	}
	r.batch(t, r.a, ops...)
	from, rows, m := r.w.Calls(), c.Files+c.Slots, pagesOf(t, c)
	r.rotate(t, api.OK)
	if n := r.w.Calls() - from; n != 2+m+1+rows+rows+m+1+rows+m {
		t.Errorf("%d calls", n)
	}
	r.settle(t, 2, api.OK)
	l := r.batch(t, r.b, api.Op{Kind: api.OpRead, Path: "/d/c", N: api.MaxFile}, api.Op{Kind: api.OpList, Path: "/d"})
	if len(l[0].Data) != api.MaxFile-2 || len(l[1].Names) != 20 || len(r.w.Dump()) != rows+m+1 {
		t.Errorf("%d bytes, %v, %d objects", len(l[0].Data), l[1].Names, len(r.w.Dump()))
	}
}
