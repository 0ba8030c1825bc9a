package rekey

import (
	"math/rand"
	"reflect"
	"strings"
	"testing"

	"casket/api"
	"casket/commit"
	"casket/seal"
)

// P25.4

// wantSide is the first Settle that is not cut off: the side that it tells, or either one where that is 0; and that the vault
// under it has all that it had.
func (r *rig) wantSide(t *testing.T, side int, held map[string]string) int {
	t.Helper()
	n, e := Settle(r.w, r.a, r.b, r.c)
	if e != api.OK || n != 1 && n != 2 || side != 0 && n != side {
		t.Fatalf("Settle: %d, %d, want %d", n, e, side)
	}
	s := []seal.Sealer{r.a, r.b}[n-1]
	st, is := r.whole(t, s)
	if !reflect.DeepEqual(is, held) {
		t.Fatalf("side %d: the vault holds %q, want %q", n, is, held)
	}
	from := r.w.Calls()
	if again, e := commit.Recover(r.w, s, r.c); e != api.OK || !sameState(again, st) {
		t.Fatalf("side %d: Recover: %d, %+v", n, e, again)
	}
	r.wantCalls(t, from, "G*"+strings.Repeat("G", pagesOf(t, r.c))+"L")
	return n
}

// TestOneOrTheOther: the power goes off at each place of a Rotate, and at each place of the Settle behind it.
func TestOneOrTheOther(t *testing.T) {
	for _, sort := range []int{idealIdeal, realReal, idealReal, realIdeal} {
		start := filled(t, sort)
		for fuse := range 30 {
			for again := range 19 {
				r := start.twin(t)
				r.w.Arm(fuse)
				want := api.ErrDown
				if fuse >= 29 { // Load, Get, Load, three Gets, List, five Gets, seven Puts, Pend, Put, Commit, seven Deletes
					want = api.OK
				}
				r.rotate(t, want)
				r.w.Power()
				r.w.Arm(again)
				if n, e := Settle(r.w, r.a, r.b, r.c); e != api.OK && (e != api.ErrDown || n != 0) {
					t.Fatalf("fuse %d, again %d: Settle: %d, %d", fuse, again, n, e)
				}
				r.w.Power()
				side := 1
				if fuse >= 21 { // up to the Put of the root
					side = 2
				}
				r.wantSide(t, side, filledHolds())
			}
		}
	}
}

// TestRotatesThatAreCutOff: two of them, each at each place; the second one goes the rest of the way.
func TestRotatesThatAreCutOff(t *testing.T) {
	for _, sort := range []int{idealIdeal, realReal, oneIdeal} {
		start := filled(t, sort)
		for fuse := range 30 {
			for second := range 38 {
				r := start.twin(t)
				r.w.Arm(fuse)
				done := Rotate(r.w, r.t, r.a, r.b, r.c) == api.OK
				r.w.Power()
				r.w.Arm(second)
				e := Rotate(r.w, r.t, r.a, r.b, r.c)
				if e != api.OK && e != api.ErrDown || second == 37 && e != api.OK {
					t.Fatalf("fuse %d, second %d: %d", fuse, second, e)
				}
				r.w.Power()
				side := 0
				if done || e == api.OK || fuse >= 21 {
					side = 2
				}
				if sort == oneIdeal { // from opens whatever to has sealed
					side = 1
				}
				r.wantSide(t, side, filledHolds())
				r.rotate(t, api.OK)
				if sort != oneIdeal {
					r.wantSide(t, 2, filledHolds())
				}
			}
		}
	}
}

// TestRotatesOverLosses: long runs of all that can be done behind a Rotate, cut off at random, and to and fro.
func TestRotatesOverLosses(t *testing.T) {
	r := rand.New(rand.NewSource(4))
	firsts, seconds, downs := 0, 0, 0
	for range 150 {
		c, sort := someConfig(r), r.Intn(realIdeal+1)
		x := made(t, c, sort)
		x.setTape(t, someBytes(400000))
		for range 8 {
			x.batch(t, x.a, someOps(r, c)...)
		}
		_, held := x.whole(t, x.a)
		for range 6 {
			done := false
			for range 1 + r.Intn(5) {
				x.w.Arm(r.Intn(4*(c.Files+c.Slots+pagesOf(t, c)) + 10))
				var e api.Errno
				if r.Intn(2) == 0 {
					_, e = Settle(x.w, x.a, x.b, c)
				} else {
					e = Rotate(x.w, x.t, x.a, x.b, c)
					done = done || e == api.OK
				}
				if e == api.ErrDown {
					downs++
				} else if e != api.OK {
					t.Fatalf("the error %d", e)
				}
				x.w.Power()
			}
			side := 0
			if done {
				side = 2
			}
			if x.wantSide(t, side, held) == 2 {
				seconds++
				x.a, x.b = x.b, x.a
			} else {
				firsts++
			}
			if r.Intn(2) == 0 {
				x.batch(t, x.a, someOps(r, c)...)
				_, held = x.whole(t, x.a)
			}
		}
	}
	if firsts < 100 || seconds < 100 || downs < 300 {
		t.Errorf("%d times side 1, %d times side 2, %d calls cut off: too few to say something", firsts, seconds, downs)
	}
}

// TestFormatAndBatchesThatAreOpen: a vault that was left with one of these cut off is rotated all the same.
func TestFormatAndBatchesThatAreOpen(t *testing.T) {
	for fuse := range 13 {
		for _, sort := range []int{idealIdeal, realReal} {
			r := filled(t, sort)
			st := r.takeUp(t, r.a)
			r.w.Arm(fuse)
			if _, _, e := commit.Batch(r.w, r.t, r.a, r.c, st, []api.Op{remove("/g"), mkdir("/e")}); e != api.ErrDown {
				t.Fatalf("Batch: %d", e)
			}
			r.w.Power()
			held := filledHolds()
			if fuse >= 8 { // two Gets, four Puts, Pend, the Put of the root
				held = map[string]string{"/d": "dir", "/d/f": "file grain", "/e": "dir"}
			}
			r.rotate(t, api.OK)
			r.wantSide(t, 2, held)
		}
		r := blank(t, six(), idealIdeal)
		r.w.Arm(fuse)
		e := commit.Format(r.w, r.t, r.a, r.c)
		r.w.Power()
		want := api.OK
		if fuse < 11 { // Load, List, seven Puts, Pend, the Put of the root
			want = api.ErrBlank
		}
		r.rotate(t, want)
		if want == api.OK {
			r.wantSide(t, 2, map[string]string{})
		} else if e != api.ErrDown {
			t.Errorf("fuse %d: Format: %d", fuse, e)
		}
	}
}

// P25.5

// wantNothingLeft is that no object opens under that sealer: not under its name, nor under any that it has sealed for.
func (r *rig) wantNothingLeft(t *testing.T, s seal.Sealer) {
	t.Helper()
	for _, o := range r.w.Dump() {
		names := []string{o.Name}
		for _, row := range tableOf(s) {
			names = append(names, row.Name)
		}
		for _, name := range names {
			for kind := api.KindData; kind <= api.KindRoot; kind++ {
				if _, e := s.Open(kind, name, o.Blob); e != api.ErrSealed {
					t.Errorf("the object %x opens under the old sealer as %d of %x", o.Name, kind, name)
				}
			}
		}
	}
}

func TestNothingIsLeft(t *testing.T) {
	for _, sort := range []int{idealIdeal, realReal, idealReal, realIdeal} {
		r := filled(t, sort)
		r.w.Put("more", "x")
		r.rotate(t, api.OK)
		r.wantNothingLeft(t, r.a)
		r.batch(t, r.b, write("/g", "new"))
		r.wantNothingLeft(t, r.a)
		r = filled(t, sort)
		for fuse := 7; fuse < 29; fuse += 3 { // what was cut off, too
			x := r.twin(t)
			x.w.Arm(fuse)
			x.rotate(t, api.ErrDown)
			x.w.Power()
			x.rotate(t, api.OK)
			x.wantNothingLeft(t, x.a)
		}
	}
}

// P25.7

// siege is a vault whose store is another's, and what it must say.
type siege struct {
	x            *rig
	held         map[string]string
	side         int // that it must be on; 0: either one
	edits        int
	done, halted int
}

// wantHeld is what counts now by the sealers' own tables: whatever lies in the store, another thing would not be taken.
func (s *siege) wantHeld(t *testing.T, side int) {
	t.Helper()
	if side != 1 && side != 2 || s.side != 0 && side != s.side {
		t.Fatalf("the side is %d, want %d", side, s.side)
	}
	if _, held := s.x.counts(t, []seal.Sealer{s.x.a, s.x.b}[side-1]); !reflect.DeepEqual(held, s.held) {
		t.Fatalf("side %d: what counts holds %q, want %q", side, held, s.held)
	}
	s.side = side // nothing is open behind it
	s.done++
}

// step is a Settle or a Rotate, and whether the vault is stopped behind it.
func (s *siege) step(t *testing.T, r *rand.Rand) bool {
	t.Helper()
	x := s.x
	side, e := 2, api.OK
	isRotate := r.Intn(2) == 0
	if isRotate {
		if e = Rotate(x.w, x.t, x.a, x.b, x.c); e == api.ErrDown && s.side == 1 {
			s.side = 0
		}
	} else {
		side, e = Settle(x.w, x.a, x.b, x.c)
	}
	switch e {
	case api.OK:
		if isRotate && s.side == 1 {
			s.side = 2
		}
		s.wantHeld(t, side)
	case api.ErrDown:
	case api.ErrTampered:
		return true
	default:
		t.Fatalf("the error %d", e)
	}
	return false
}

// run goes on till the vault is stopped, or enough was done.
func (s *siege) run(t *testing.T, r *rand.Rand) {
	t.Helper()
	for range 15 {
		for range r.Intn(3) {
			if r.Intn(3) == 0 && s.x.w.Plan(someEdit(r, s.x.w, 30)) == api.OK {
				s.edits++
			}
		}
		if r.Intn(2) == 0 {
			s.x.w.Arm(r.Intn(45))
		}
		stopped := s.step(t, r)
		s.x.w.Power()
		if stopped {
			if s.edits == 0 {
				t.Fatal("ErrTampered, and nobody has touched the store")
			}
			s.halted++
			s.x.wantStopped(t)
			return
		}
	}
}

func TestNothingElse(t *testing.T) {
	r := rand.New(rand.NewSource(7))
	done, halted, seconds := 0, 0, 0
	for range 700 {
		c := someConfig(r)
		x := made(t, c, idealIdeal)
		for range 5 {
			x.batch(t, x.a, someOps(r, c)...)
		}
		_, held := x.whole(t, x.a)
		s := &siege{x: x, held: held, side: 1}
		s.run(t, r)
		done, halted = done+s.done, halted+s.halted
		if s.side == 2 {
			seconds++
		}
	}
	if done < 1000 || halted < 200 || seconds < 200 {
		t.Errorf("%d calls were done, %d vaults were stopped, %d went over: too few to say something", done, halted, seconds)
	}
}

// TestEveryObjectIsHeld: each object, changed in each of some ways, is found out by a Rotate, and nothing is sealed.
func TestEveryObjectIsHeld(t *testing.T) {
	for _, sort := range []int{idealIdeal, realReal} {
		start := filled(t, sort)
		st, _ := start.whole(t, start.a)
		rows, pages := map[string]int{}, map[string]int{}
		for i, o := range st.Pool.Objects {
			rows[o.Name] = i
		}
		for i, p := range st.Root.Pages {
			pages[p.Name] = i
		}
		for _, b := range start.w.Dump() {
			calls := "G*G*"
			if row, is := rows[b.Name]; is {
				calls = settled + "GGGGG"[:row+1]
			} else if page, is := pages[b.Name]; is {
				calls += "GG"[:page+1]
			}
			blobs := []string{"", b.Blob[1:], b.Blob + "x", "x" + b.Blob, b.Blob[:len(b.Blob)-1], b.Blob[len(b.Blob)-16:]}
			for _, other := range start.w.Dump() {
				if other.Name != b.Name {
					blobs = append(blobs, other.Blob)
				}
			}
			for i := range len(b.Blob) {
				blobs = append(blobs, b.Blob[:i]+string([]byte{b.Blob[i] ^ 1})+b.Blob[i+1:])
			}
			for _, blob := range blobs {
				r := start.twin(t)
				r.lay(t, b.Name, blob)
				r.rotate(t, api.ErrTampered)
				r.wantCalls(t, 1, calls) // behind the Put that laid it
				if !r.w.Kept().Stopped || len(tableOf(r.b)) != 0 {
					t.Errorf("%+v, or something was sealed", r.w.Kept())
				}
			}
		}
	}
}

// TestOlderStoresAreFoundOut: the whole store as it was ahead of the Rotate, and each object that it has replaced.
func TestOlderStoresAreFoundOut(t *testing.T) {
	r := filled(t, idealIdeal)
	old := r.w.Dump()
	r.rotate(t, api.OK)
	r.settle(t, 2, api.OK)
	k := r.w.Kept()
	r.w = mustAdopt(t, old, k)
	r.settle(t, 0, api.ErrTampered)
	r.wantCalls(t, 0, "G*G*")
	r.wantStopped(t)
	for put := range 21 {
		r := filled(t, idealIdeal)
		r.rotate(t, api.OK)
		calls := r.w.Calls()
		puts := r.puts()
		r.w.Plan(api.Edit{Before: calls, Kind: api.EditReplay, Put: len(puts) - 1, From: put})
		want := api.ErrTampered
		if puts[put].Blob == puts[len(puts)-1].Blob {
			want = api.OK
		}
		side := 0
		if want == api.OK {
			side = 2
		}
		r.settle(t, side, want)
		if want != api.OK {
			r.wantStopped(t)
		}
	}
	// A Rotate that is open: the root ahead of it counts once more, for good.
	r = filled(t, idealIdeal)
	root := r.objects()[api.RootName]
	r.w.Arm(21)
	r.rotate(t, api.ErrDown)
	r.w.Power()
	next := r.objects()[api.RootName]
	r.lay(t, api.RootName, root)
	r.wantSide(t, 1, filledHolds())
	r.lay(t, api.RootName, next)
	r.settle(t, 0, api.ErrTampered)
	r.wantStopped(t)
}

// TestForeignObjectsAreSwept: what lies under other names, blobs of the vault itself too.
func TestForeignObjectsAreSwept(t *testing.T) {
	r := filled(t, idealIdeal)
	for _, name := range []string{"a", "roo", "root ", strings.Repeat("n", api.MaxLabel), sixteen("z")} {
		for _, o := range r.w.Dump()[:1] {
			r.w.Put(name, o.Blob)
		}
	}
	from := r.w.Calls()
	r.rotate(t, api.OK)
	r.wantCalls(t, from, settled+"DDDDD"+whole[len(settled):])
	r.wantSide(t, 2, filledHolds())
	r.wantNothingLeft(t, r.a)
}
