package rekey

import (
	"fmt"
	"math"
	"reflect"
	"strings"
	"sync"
	"testing"

	"casket/api"
	"casket/commit"
	"casket/seal"
	"casket/tape"
	"casket/world"
)

// The examples of the chapter.

const (
	settled     = "G*G*GGL"
	settleCalls = 5
	whole       = settled + "GGGGGPPPPPPPP*DDDDDDD"
	wholeCalls  = settleCalls + 5 + 8 + 7
)

func (r *rig) wantHi(t *testing.T, s seal.Sealer) {
	t.Helper()
	if _, held := r.whole(t, s); !reflect.DeepEqual(held, map[string]string{"/x": "file hi"}) {
		t.Errorf("the vault holds %q", held)
	}
	if l := r.batch(t, s, read("/x")); l[0].Data != "hi" {
		t.Errorf("/x has %q", l[0].Data)
	}
}

func TestExampleRotate(t *testing.T) {
	r := example(t)
	from := r.w.Calls()
	r.settle(t, 1, api.OK)
	r.wantCalls(t, from, settled)
	from = r.w.Calls()
	r.rotate(t, api.OK)
	r.wantCalls(t, from, whole)
	r.settle(t, 2, api.OK)
	if n, e := Settle(r.w, r.b, r.a, r.c); n != 1 || e != api.OK {
		t.Errorf("Settle the other way round: %d, %d", n, e)
	}
	r.wantHi(t, r.b)
	from, drawn, rows := r.w.Calls(), r.t.Drawn(), len(tableOf(r.b))
	r.rotate(t, api.OK)
	r.wantCalls(t, from, settled)
	if r.t.Drawn() != drawn || len(tableOf(r.b)) != rows {
		t.Error("a Rotate that finds side 2 draws, or seals")
	}
	r.wantHi(t, r.b)
}

func TestExamplePower(t *testing.T) {
	for _, x := range []struct {
		fuse    int
		calls   string
		side    int
		pending bool
		behind  string
	}{
		{22, whole[:len(whole)-7], 2, false, "G*G*GGLDDDDDDD"},
		{21, whole[:len(whole)-7], 2, true, "G*G*GGLDDDDDDD"},
		{20, whole[:len(whole)-9], 1, true, "G*G*GGLDDDDDDD"},
		{19, whole[:len(whole)-9], 1, false, "G*G*GGLDDDDDDD"},
	} {
		r := example(t)
		from := r.w.Calls()
		r.w.Arm(x.fuse)
		r.rotate(t, api.ErrDown)
		r.wantCalls(t, from, x.calls)
		if k := r.w.Kept(); (k.Pending != "") != x.pending {
			t.Errorf("fuse %d: the register %+v", x.fuse, k)
		}
		r.w.Power()
		from = r.w.Calls()
		r.settle(t, x.side, api.OK)
		r.wantCalls(t, from, x.behind)
		r.wantHi(t, []seal.Sealer{r.a, r.b}[x.side-1])
	}
}

func TestExampleEntropy(t *testing.T) {
	r := example(t)
	x := mustTape(t, longTape[:100])
	if e := Rotate(r.w, x, r.a, r.b, r.c); e != api.ErrEntropy {
		t.Errorf("a tape of 100 bytes: %d", e)
	}
	r.settle(t, 1, api.OK)
	r.wantHi(t, r.a)
}

func TestExampleTampered(t *testing.T) {
	for row := range 5 {
		r := example(t)
		st := r.takeUp(t, r.a)
		r.spoil(t, st.Pool.Objects[row].Name, 0)
		from := r.w.Calls()
		r.rotate(t, api.ErrTampered)
		r.wantCalls(t, from, settled+"GGGGG"[:row+1])
		r.wantStopped(t)
	}
	r := example(t)
	r.spoil(t, api.RootName, 0)
	from := r.w.Calls()
	r.settle(t, 0, api.ErrTampered)
	r.wantCalls(t, from, "G*G*")
	r.wantStopped(t)
}

// spoil turns a bit of a byte of an object. (The store is another one then, and its calls begin anew.)
func (r *rig) spoil(t *testing.T, name string, at int) {
	t.Helper()
	b := []byte(r.objects()[name])
	b[at] ^= 1
	r.lay(t, name, string(b))
}

// lay lays a blob under a name.
func (r *rig) lay(t *testing.T, name, blob string) {
	t.Helper()
	r.drop(t, name)
	if e := r.w.Put(name, blob); e != api.OK {
		t.Fatalf("Put: %d", e)
	}
}

func (r *rig) drop(t *testing.T, name string) {
	t.Helper()
	var blobs []api.Blob
	for _, b := range r.w.Dump() {
		if b.Name != name {
			blobs = append(blobs, b)
		}
	}
	r.w = mustAdopt(t, blobs, r.w.Kept())
}

// wantStopped is P25.7's: nothing more is done, for good, under whichever sealer, and whatever is handed in beside.
func (r *rig) wantStopped(t *testing.T) {
	t.Helper()
	k := r.w.Kept()
	calls, drawn, left := r.w.Calls(), r.t.Drawn(), r.t.Left()
	for range 2 {
		r.settle(t, 0, api.ErrTampered)
		r.rotate(t, api.ErrTampered)
		for _, s := range []seal.Sealer{r.a, r.b} {
			if _, e := commit.Recover(r.w, s, r.c); e != api.ErrTampered {
				t.Errorf("Recover behind ErrTampered: %d", e)
			}
			if e := commit.Format(r.w, r.t, s, r.c); e != api.ErrTampered {
				t.Errorf("Format behind ErrTampered: %d", e)
			}
		}
	}
	if !k.Stopped || r.w.Kept() != k || r.w.Calls() != calls || r.t.Drawn() != drawn || r.t.Left() != left {
		t.Errorf("behind ErrTampered: %+v, %d calls, %d bytes", r.w.Kept(), r.w.Calls()-calls, r.t.Drawn()-drawn)
	}
}

func TestExampleRefused(t *testing.T) {
	r := blank(t, six(), idealIdeal)
	r.settle(t, 0, api.ErrBlank)
	r.rotate(t, api.ErrBlank)
	r.wantCalls(t, 0, "")
	r = example(t)
	k, from := r.w.Kept(), r.w.Calls()
	r.c.Least = 17
	r.settle(t, 0, api.ErrConfig)
	r.wantCalls(t, from, "G*G*")
	r.rotate(t, api.ErrConfig)
	r.wantCalls(t, from, "G*G*G*G*")
	r.c = six()
	r.c.Page = 63
	r.settle(t, 0, api.ErrConfig)
	r.rotate(t, api.ErrConfig)
	r.wantCalls(t, from, "G*G*G*G*")
	if r.w.Kept() != k || r.t.Left() != len(longTape)-r.t.Drawn() {
		t.Errorf("ErrConfig: %+v, %d bytes are left", r.w.Kept(), r.t.Left())
	}
	r.c = six()
	if n, e := Settle(r.w, nil, r.b, r.c); n != 0 || e != api.ErrNil {
		t.Errorf("a nil sealer: %d, %d", n, e)
	}
	r.settle(t, 1, api.OK)
	r.wantHi(t, r.a)
}

func TestExampleOneSealer(t *testing.T) {
	for _, sort := range []int{oneIdeal, oneReal} {
		r := made(t, six(), sort)
		r.batch(t, r.a, create("/x"), write("/x", "hi"))
		for range 3 {
			old, from := r.objects(), r.w.Calls()
			r.rotate(t, api.OK)
			r.wantCalls(t, from, whole)
			for name, blob := range r.objects() {
				if name != api.RootName && old[name] != "" || name == api.RootName && old[name] == blob {
					t.Errorf("the object %x is as it was", name)
				}
			}
			r.settle(t, 1, api.OK)
			r.wantHi(t, r.a)
		}
	}
}

// P25.1

// spoilt is configurations that may not be.
func spoilt() []api.Config {
	var l []api.Config
	for _, f := range []func(*api.Config){
		func(c *api.Config) { *c = api.Config{} },
		func(c *api.Config) { c.Slots = 0 },
		func(c *api.Config) { c.Slots = 65 },
		func(c *api.Config) { c.Files = 0 },
		func(c *api.Config) { c.Files = api.MaxFiles + 1 },
		func(c *api.Config) { c.Files = api.MaxFiles },
		func(c *api.Config) { c.Dirs = -1 },
		func(c *api.Config) { c.Dirs = math.MaxInt },
		func(c *api.Config) { c.MaxFile = -1 },
		func(c *api.Config) { c.MaxFile = api.MaxFile + 1 },
		func(c *api.Config) { c.Least = 15 },
		func(c *api.Config) { c.Least = math.MinInt },
		func(c *api.Config) { c.Page = 63 },
		func(c *api.Config) { c.Page = api.MaxPage + 1 },
	} {
		c := six()
		f(&c)
		l = append(l, c)
	}
	return l
}

// wantBoth is one error of both calls; Settle, which is handed no tape, is not asked where there is none.
func wantBoth(t *testing.T, what string, w *world.World, x *tape.Tape, from, to seal.Sealer, c api.Config, want api.Errno) {
	t.Helper()
	if e := Rotate(w, x, from, to, c); e != want {
		t.Errorf("%s: Rotate: %d, want %d", what, e, want)
	}
	if x == nil {
		return
	}
	if n, e := Settle(w, from, to, c); n != 0 || e != want {
		t.Errorf("%s: Settle: %d, %d, want %d", what, n, e, want)
	}
}

func TestNilAheadOfConfigAheadOfAll(t *testing.T) {
	r := filled(t, idealIdeal)
	calls, drawn, k := r.w.Calls(), r.t.Drawn(), r.w.Kept()
	var ideal *seal.Ideal
	var real *seal.Real
	for _, c := range append(spoilt(), six()) {
		wantBoth(t, "no world", nil, r.t, r.a, r.b, c, api.ErrNil)
		wantBoth(t, "no tape", r.w, nil, r.a, r.b, c, api.ErrNil)
		for _, none := range []seal.Sealer{nil, ideal, real, &seal.Ideal{}, &seal.Real{}} {
			wantBoth(t, "no from", r.w, r.t, none, r.b, c, api.ErrNil)
			wantBoth(t, "no to", r.w, r.t, r.a, none, c, api.ErrNil)
			wantBoth(t, "no sealer", r.w, r.t, none, none, c, api.ErrNil)
		}
		wantBoth(t, "nothing", nil, nil, nil, nil, c, api.ErrNil)
		if c != six() {
			wantBoth(t, fmt.Sprint(c), r.w, r.t, r.a, r.b, c, api.ErrConfig)
		}
	}
	r.w.Arm(0)
	wantBoth(t, "no configuration, the power off", r.w, r.t, r.a, r.b, api.Config{}, api.ErrConfig)
	wantBoth(t, "no sealer, the power off", r.w, r.t, r.a, nil, six(), api.ErrNil)
	wantBoth(t, "the power off", r.w, r.t, r.a, r.b, six(), api.ErrDown)
	r.w.Power()
	r.w.Arm(1)
	wantBoth(t, "no call of the register", r.w, r.t, r.a, r.b, api.Config{}, api.ErrConfig)
	if r.w.Down() || r.w.Calls() != calls || r.t.Drawn() != drawn || r.t.Left() != len(r.bytes)-drawn || r.w.Kept() != k || len(tableOf(r.b)) != 0 {
		t.Error("a call that was refused has done something")
	}
	r.w.Power()
	r.w.Stop()
	wantBoth(t, "no configuration, stopped", r.w, r.t, r.a, r.b, api.Config{}, api.ErrConfig)
	wantBoth(t, "stopped", r.w, r.t, r.a, r.b, six(), api.ErrTampered)
}

// TestZeroStructs: what a zero world answers is not said, but that the calls end and none panics; a zero tape refuses.
func TestZeroStructs(t *testing.T) {
	r := filled(t, idealIdeal)
	if e := Rotate(&world.World{}, r.t, r.a, r.b, r.c); e == api.OK {
		t.Error("Rotate of a world that is not there")
	}
	if n, e := Settle(&world.World{}, r.a, r.b, r.c); n != 0 || e == api.OK {
		t.Errorf("Settle of a world that is not there: %d, %d", n, e)
	}
	if e := Rotate(r.w, &tape.Tape{}, r.a, r.b, r.c); e != api.ErrEntropy {
		t.Errorf("Rotate with a tape that is not there: %d", e)
	}
	if _, held := r.whole(t, r.a); !reflect.DeepEqual(held, filledHolds()) {
		t.Errorf("the vault holds %q", held)
	}
}

// broken is a sealer of nobody's, that throws at one of its calls.
type broken struct {
	seal.Sealer
	at string
}

func (b broken) Fresh(coins string) bool {
	if b.at == "Fresh" {
		panic("Fresh")
	}
	return b.Sealer.Fresh(coins)
}

func (b broken) Seal(kind int, name, text, coins string) (string, api.Errno) {
	if b.at == "Seal" {
		panic(fmt.Errorf("Seal"))
	}
	return b.Sealer.Seal(kind, name, text, coins)
}

func (b broken) Open(kind int, name, blob string) (string, api.Errno) {
	if b.at == "Open" || b.at == "Open of data" && kind == api.KindData {
		panic(17)
	}
	return b.Sealer.Open(kind, name, blob)
}

func TestNoPanicWhateverTheSealer(t *testing.T) {
	r := filled(t, idealIdeal)
	wantBoth(t, "a sealer of nothing", r.w, r.t, broken{}, r.b, r.c, api.ErrNil)
	wantBoth(t, "a sealer of nothing", r.w, r.t, r.a, broken{}, r.c, api.ErrNil)
	wantBoth(t, "a sealer that throws", r.w, r.t, broken{r.a, "Open"}, r.b, r.c, api.ErrNil)
	for _, at := range []string{"Fresh", "Seal"} {
		if e := Rotate(r.w, r.t, r.a, broken{r.b, at}, r.c); e != api.ErrNil {
			t.Errorf("%s: %d", at, e)
		}
	}
	if e := Rotate(r.w, r.t, broken{r.a, "Open of data"}, r.b, r.c); e != api.ErrNil {
		t.Errorf("Open of data: %d", e)
	}
	if _, held := r.whole(t, r.a); !reflect.DeepEqual(held, filledHolds()) {
		t.Errorf("the vault holds %q", held)
	}
}

func TestManyAtOnce(t *testing.T) {
	want := example(t)
	want.rotate(t, api.OK)
	st, _ := want.whole(t, want.b)
	rigs := make([]*rig, 8)
	for i := range rigs {
		rigs[i] = example(t)
	}
	var all sync.WaitGroup
	for _, r := range rigs {
		all.Go(func() {
			e := Rotate(r.w, r.t, r.a, r.b, r.c)
			n, f := Settle(r.w, r.a, r.b, r.c)
			if is, g := commit.Recover(r.w, r.b, r.c); e != api.OK || n != 2 || f != api.OK || g != api.OK || !sameState(is, st) {
				t.Errorf("%d, %d, %d, %d: another state", e, n, f, g)
			}
		})
	}
	all.Wait()
}

// P25.2

func TestSettleLooksAtTheRegisterFirst(t *testing.T) {
	tag := sixteen("t")
	for i, x := range []struct {
		k    api.Register
		want api.Errno
	}{
		{api.Register{Stopped: true}, api.ErrTampered},
		{api.Register{Current: tag, Stopped: true}, api.ErrTampered},
		{api.Register{Pending: tag, Stopped: true}, api.ErrTampered},
		{api.Register{}, api.ErrBlank},
	} {
		r := filled(t, idealIdeal)
		r.w = mustAdopt(t, r.w.Dump(), x.k)
		r.settle(t, 0, x.want)
		r.rotate(t, x.want)
		if r.w.Calls() != 0 || r.w.Kept() != x.k || len(r.w.Dump()) != 8 {
			t.Errorf("row %d: %d calls, %+v", i, r.w.Calls(), r.w.Kept())
		}
		r.w.Arm(2)
		r.settle(t, 0, x.want)
		r.rotate(t, x.want)
		if !r.w.Down() { // each of the two made its Load, and nothing else
			t.Errorf("row %d: no Load", i)
		}
		r.settle(t, 0, api.ErrDown)
		r.rotate(t, api.ErrDown)
	}
}

// rotated is a vault that is under b.
func rotated(t *testing.T, sort int) *rig {
	t.Helper()
	r := filled(t, sort)
	r.rotate(t, api.OK)
	return r
}

// with is the same store, with another register, and the tapes and sealers that are at hand.
func (r *rig) with(t *testing.T, k api.Register) *rig {
	t.Helper()
	x := r.twin(t)
	x.w = mustAdopt(t, r.w.Dump(), k)
	return x
}

// TestSide: which registers find the root of either side, and what commit.Recover makes of them then.
func TestSide(t *testing.T) {
	for _, sort := range []int{idealIdeal, realReal, idealReal, realIdeal} {
		for side, r := range []*rig{filled(t, sort), rotated(t, sort)} {
			s, tag, other := []seal.Sealer{r.a, r.b}[side], r.w.Kept().Current, sixteen("o")
			st, _ := r.whole(t, s)
			for _, x := range []struct {
				k     api.Register
				calls int // of the world, beside Settle's own two
			}{
				{api.Register{Current: tag}, 5},
				{api.Register{Current: tag, Pending: other}, 6},
				{api.Register{Current: other, Pending: tag}, 6},
				{api.Register{Pending: tag}, 6},
				{api.Register{Current: tag, Pending: tag}, 6},
			} {
				y := r.with(t, x.k)
				y.w.Arm(2 + x.calls)
				y.settle(t, side+1, api.OK)
				if y.calls(0) != settled || !y.w.Down() {
					t.Errorf("%+v: the calls are %q, and not just %d", x.k, y.calls(0), 2+x.calls)
				}
				if y.w.Kept() != (api.Register{Current: tag}) {
					t.Errorf("%+v: the register is %+v", x.k, y.w.Kept())
				}
				y.w.Power()
				if is, held := y.whole(t, []seal.Sealer{y.a, y.b}[side]); !sameState(is, st) || !reflect.DeepEqual(held, filledHolds()) {
					t.Errorf("%+v: the vault holds %q", x.k, held)
				}
			}
			for _, k := range []api.Register{{Current: other}, {Current: other, Pending: sixteen("p")}} {
				y := r.with(t, k)
				y.settle(t, 0, api.ErrTampered)
				y.wantCalls(t, 0, "G*G*")
				y.wantStopped(t)
			}
			y := r.with(t, api.Register{Pending: other})
			y.settle(t, 0, api.ErrBlank)
			y.rotate(t, api.ErrBlank)
			y.wantCalls(t, 0, "G*G*G*G*")
			if y.w.Kept() != (api.Register{Pending: other}) {
				t.Errorf("ErrBlank: the register is %+v", y.w.Kept())
			}
		}
	}
}

// spy notes what it is asked to open.
type spy struct {
	seal.Sealer
	kinds []int
}

func (s *spy) Open(kind int, name, blob string) (string, api.Errno) {
	s.kinds = append(s.kinds, kind)
	return s.Sealer.Open(kind, name, blob)
}

// TestSideWithoutARoot: where it is 1 for want of a root that is right, commit.Recover is called under from.
func TestSideWithoutARoot(t *testing.T) {
	for _, x := range []struct {
		what string
		lay  func(r *rig) string // the tag that the register has
	}{
		{"no root", func(r *rig) string { r.drop(t, api.RootName); return sixteen("t") }},
		{"an empty root", func(r *rig) string { r.lay(t, api.RootName, ""); return sixteen("t") }},
		{"fifteen bytes", func(r *rig) string { r.lay(t, api.RootName, sixteen("t")[1:]); return sixteen("t") }},
		{"the tag alone", func(r *rig) string { r.lay(t, api.RootName, sixteen("t")); return sixteen("t") }},
		{"another tag", func(r *rig) string { return sixteen("t") }},
		{"a byte changed", func(r *rig) string { r.spoil(t, api.RootName, 3); return r.w.Kept().Current }},
		{"a page in its place", func(r *rig) string {
			st, _ := r.whole(t, r.b)
			page := r.objects()[st.Root.Pages[0].Name]
			r.lay(t, api.RootName, page)
			return plainTag(page)
		}},
		{"sealed as a page", func(r *rig) string {
			b, _ := r.b.Seal(api.KindPage, api.RootName, strings.Repeat("x", 96), longTape[:r.b.Coins(96)])
			r.lay(t, api.RootName, b)
			return plainTag(b)
		}},
		{"sealed under another name", func(r *rig) string {
			b, _ := r.b.Seal(api.KindRoot, "rooT", strings.Repeat("x", 96), longTape[:r.b.Coins(96)])
			r.lay(t, api.RootName, b)
			return plainTag(b)
		}},
	} {
		for _, sort := range []int{idealIdeal, realReal} {
			for _, current := range []bool{true, false} {
				r := rotated(t, sort)
				tag := x.lay(r)
				k, want := api.Register{Current: tag}, api.ErrTampered
				if !current {
					k, want = api.Register{Pending: tag}, api.ErrBlank
				}
				y := r.with(t, k)
				to := &spy{Sealer: y.b}
				y.b = to
				y.settle(t, 0, want)
				y.wantCalls(t, 0, "G*G*")
				if len(to.kinds) > 1 { // to find the side; commit.Recover would ask it once more
					t.Errorf("%s: commit.Recover is called under to", x.what)
				}
				if k.Stopped = current; y.w.Kept() != k {
					t.Errorf("%s: the register is %+v", x.what, y.w.Kept())
				}
			}
		}
	}
}

// TestSideOfARootThatToAloneOpens: that it opens is all that is asked; what is wrong with it commit.Recover finds out, under
// to.
func TestSideOfARootThatToAloneOpens(t *testing.T) {
	for _, text := range []string{"", "x", plainPack(api.KindPage, "R", 96), plainPack(api.KindRoot, "", 96)} {
		r := rotated(t, idealIdeal)
		b, e := r.b.Seal(api.KindRoot, api.RootName, text, longTape[:40+len(text)])
		if e != api.OK {
			t.Fatalf("Seal: %d", e)
		}
		r.lay(t, api.RootName, b)
		for _, x := range []struct {
			k    api.Register
			want api.Errno
		}{
			{api.Register{Current: plainTag(b)}, api.ErrTampered}, {api.Register{Pending: plainTag(b)}, api.ErrBlank},
		} {
			y := r.with(t, x.k)
			from, to := &spy{Sealer: y.a}, &spy{Sealer: y.b}
			y.a, y.b = from, to
			y.settle(t, 0, x.want)
			y.wantCalls(t, 0, "G*G*")
			if !reflect.DeepEqual(to.kinds, []int{api.KindRoot, api.KindRoot}) || len(from.kinds) != 1 {
				t.Errorf("from opens %v, to %v", from.kinds, to.kinds)
			}
		}
	}
}

// TestSideOfARootThatBothOpen: it is from's.
func TestSideOfARootThatBothOpen(t *testing.T) {
	r := filled(t, idealIdeal)
	r.b = again(t, r.a) // it has sealed the same
	for _, k := range []api.Register{r.w.Kept(), {Pending: r.w.Kept().Current}, {Current: sixteen("o"), Pending: r.w.Kept().Current}} {
		y := r.with(t, k)
		y.settle(t, 1, api.OK)
		y.rotate(t, api.OK)
		y.settle(t, 2, api.OK)
		if _, held := y.whole(t, y.b); !reflect.DeepEqual(held, filledHolds()) {
			t.Errorf("the vault holds %q", held)
		}
	}
	one := filled(t, realReal)
	one.b = mustReal(t, "a") // another sealer, of the same key
	for range 2 {
		from := one.w.Calls()
		one.rotate(t, api.OK)
		one.wantCalls(t, from, whole)
		one.settle(t, 1, api.OK)
	}
}

// TestSideOfAnOlderRoot: one that to opens, and that has neither of the register's tags, finds side 1, whatever commit.Recover
// is shown behind that.
func TestSideOfAnOlderRoot(t *testing.T) {
	r := rotated(t, idealIdeal)
	older := r.objects()[api.RootName]
	r.batch(t, r.b, write("/g", "new"))
	newest := r.objects()[api.RootName]
	for i, x := range []struct {
		first, second string
		side          int
		want          api.Errno
	}{
		{older, newest, 0, api.ErrTampered}, {newest, older, 0, api.ErrTampered}, {newest, newest, 2, api.OK},
	} {
		y := r.twin(t)
		for before, blob := range []string{x.first, x.second} {
			if e := y.w.Plan(api.Edit{Before: before, Kind: api.EditAdd, Name: api.RootName, Blob: blob}); e != api.OK {
				t.Fatalf("row %d: Plan: %d", i, e)
			}
		}
		y.settle(t, x.side, x.want)
		if x.want != api.OK {
			y.wantCalls(t, 0, "G*G*")
			y.wantStopped(t)
		}
	}
}

// TestSettleOfAnotherConfiguration: the side's, too, is not stopped for it.
func TestSettleOfAnotherConfiguration(t *testing.T) {
	for i, change := range []func(c *api.Config){
		func(c *api.Config) { c.Slots = 3 }, func(c *api.Config) { c.Files = 4 }, func(c *api.Config) { c.Dirs = 1 },
		func(c *api.Config) { c.MaxFile = 99 }, func(c *api.Config) { c.Least = 17 }, func(c *api.Config) { c.Page = 257 },
	} {
		for side, r := range []*rig{filled(t, idealIdeal), rotated(t, idealIdeal)} {
			tag := r.w.Kept().Current
			for _, k := range []api.Register{{Current: tag}, {Pending: tag}, {Current: sixteen("o"), Pending: tag}} {
				y := r.with(t, k)
				change(&y.c)
				y.settle(t, 0, api.ErrConfig)
				y.rotate(t, api.ErrConfig)
				y.wantCalls(t, 0, "G*G*G*G*")
				if y.w.Kept() != k || y.t.Drawn() != 0 {
					t.Errorf("row %d: the register %+v, was %+v", i, y.w.Kept(), k)
				}
				y.c = six()
				y.settle(t, side+1, api.OK)
			}
		}
	}
}

// TestTheOtherSealerStops: what Settle is there for.
func TestTheOtherSealerStops(t *testing.T) {
	for _, sort := range []int{idealIdeal, realReal, idealReal, realIdeal} {
		for side, r := range []*rig{filled(t, sort), rotated(t, sort)} {
			r.settle(t, side+1, api.OK)
			if n, e := Settle(r.w, r.b, r.a, r.c); n != 2-side || e != api.OK {
				t.Errorf("the other way round: %d, %d", n, e)
			}
			if _, e := commit.Recover(r.w, []seal.Sealer{r.b, r.a}[side], r.c); e != api.ErrTampered {
				t.Errorf("Recover under the other sealer: %d", e)
			}
			r.wantStopped(t)
		}
	}
}

// TestSettleSweeps: what a Rotate has left, and what another hand has added.
func TestSettleSweeps(t *testing.T) {
	for side, r := range []*rig{filled(t, idealIdeal), rotated(t, idealIdeal)} {
		r.w.Put("more", "x")
		from := r.w.Calls()
		r.settle(t, side+1, api.OK)
		r.wantCalls(t, from, settled+"D")
		r.whole(t, []seal.Sealer{r.a, r.b}[side])
	}
}

// TestSettleCutOff: at each of its calls, those of commit.Recover among them.
func TestSettleCutOff(t *testing.T) {
	for side, r := range []*rig{filled(t, idealIdeal), rotated(t, idealIdeal)} {
		k := api.Register{Current: sixteen("o"), Pending: r.w.Kept().Current}
		for fuse := range 9 { // Load, Get, Load, three Gets, Commit, List
			y := r.with(t, k)
			y.w.Arm(fuse)
			if fuse < 8 {
				y.settle(t, 0, api.ErrDown)
				y.rotate(t, api.ErrDown)
			} else {
				y.settle(t, side+1, api.OK)
			}
			gets := min(max(fuse-1, 0), 1) + min(max(fuse-3, 0), 3)
			want := []string{"", "G*", "G*G*", "G*G*G", "G*G*GG"}[gets]
			if fuse == 8 {
				want += "L"
			}
			y.wantCalls(t, 0, want)
			if is := y.w.Kept(); is != k && fuse < 7 || is.Pending != "" && fuse >= 7 {
				t.Errorf("fuse %d: the register is %+v", fuse, is)
			}
		}
	}
}
