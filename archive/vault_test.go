package archive

import (
	"fmt"
	"math/rand"
	"slices"
	"strings"
	"testing"

	"casket/api"
)

// wider is a vault with a wider tree: three levels of directories, files on all of them, and an empty directory below.
func wider(t *testing.T, slots int, ideal bool, bytes string) *rig {
	t.Helper()
	r := made(t, api.Config{Slots: slots, Files: 8, Dirs: 6, MaxFile: 100, Least: 16, Page: 256}, ideal, bytes)
	r.do(t,
		mkdir("/z"), mkdir("/b"), mkdir("/b/c"), mkdir("/b!"), mkdir("/z/a"), mkdir("/z/a/n"),
		create("/z/a/2"), create("/z/a/10"), create("/b!/x"), create("/b/c/x"), create("/a"), create("/c"), create("/z/e"),
		write("/z/a/2", "two"), write("/z/a/10", "ten\n"), write("/b!/x", "x"), write("/b/c/x", strings.Repeat("\x00", 100)), write("/c", "sum 00\n"))
	return r
}

func widerText() string {
	return summed(bodyOf([]api.Entry{
		fileEntry("/a", ""), dirEntry("/b"), dirEntry("/b!"), fileEntry("/b!/x", "x"), dirEntry("/b/c"), fileEntry("/b/c/x", strings.Repeat("\x00", 100)),
		fileEntry("/c", "sum 00\n"), dirEntry("/z"), dirEntry("/z/a"), fileEntry("/z/a/10", "ten\n"), fileEntry("/z/a/2", "two"), dirEntry("/z/a/n"), fileEntry("/z/e", ""),
	}))
}

// TestPackLevelByLevel: what is asked, level by level, in batches that hold no more than a level (P24.5).
func TestPackLevelByLevel(t *testing.T) {
	for _, ideal := range []bool{false, true} {
		for slots, batches := range map[int]int{1: 1 + 5 + 3 + 4 + 2 + 4 + 1 + 5, 2: 1 + 3 + 2 + 2 + 1 + 2 + 1 + 3, 3: 1 + 2 + 1 + 2 + 1 + 2 + 1 + 2, 4: 1 + 2 + 1 + 1 + 1 + 1 + 1 + 2, 5: 1 + 1 + 1 + 1 + 1 + 1 + 1 + 1} {
			// /: a b b! c z; /b, /b!, /z: c, x, a, e; /b/c, /z/a: x, 10, 2, n; /z/a/n: nothing; five files hold something
			r, twin := wider(t, 5, ideal, longTape), wider(t, 5, ideal, longTape)
			from := r.w.Calls()
			wantPack(t, "wider", r.v, slots, widerText(), api.OK)
			if n := r.batches(from); n != batches {
				t.Errorf("P24.5: %d batches of %d, want %d", n, slots, batches)
			}
			if s, e := plainPack(twin.v, slots); s != widerText() || e != api.OK {
				t.Errorf("the words done once more: %q, %d", s, e)
			}
			wantSame(t, fmt.Sprint("wider, slots ", slots), r, twin)
		}
	}
}

// TestLevelsRise: what is on a level stands by rising paths, all directories together (P24.5). Lists and Stats touch no file, so
// that their order is not to be seen from without.
func TestLevelsRise(t *testing.T) {
	h, e := handOf(wider(t, 5, false, longTape).v, 2)
	if e != api.OK {
		t.Fatal(e)
	}
	want := [][]string{{"/a", "/b", "/b!", "/c", "/z"}, {"/b!/x", "/b/c", "/z/a", "/z/e"}, {"/b/c/x", "/z/a/10", "/z/a/2", "/z/a/n"}, nil}
	var levels [][]string
	for level, e := range h.levels() {
		if e != api.OK {
			t.Fatal(e)
		}
		var paths []string
		for _, n := range level {
			paths = append(paths, n.Path)
		}
		levels = append(levels, paths)
	}
	if !slices.EqualFunc(levels, want, slices.Equal) {
		t.Errorf("P24.5: the levels are %v, want %v", levels, want)
	}
}

// TestPackReadsByRisingPaths: the files of all levels are read together, and each slot of a batch shows which row it touches.
func TestPackReadsByRisingPaths(t *testing.T) {
	a, b := wider(t, 5, true, longTape), wider(t, 5, true, longTape)
	wantPack(t, "wider", a.v, 5, widerText(), api.OK)
	for _, ops := range [][]api.Op{
		{list("/")}, {stat("/a"), stat("/b"), stat("/b!"), stat("/c"), stat("/z")},
		{list("/b"), list("/b!"), list("/z")}, {stat("/b!/x"), stat("/b/c"), stat("/z/a"), stat("/z/e")},
		{list("/b/c"), list("/z/a")}, {stat("/b/c/x"), stat("/z/a/10"), stat("/z/a/2"), stat("/z/a/n")},
		{list("/z/a/n")},
		{readOp("/b!/x", 1), readOp("/b/c/x", 100), readOp("/c", 7), readOp("/z/a/10", 4), readOp("/z/a/2", 3)},
	} {
		if _, e := b.v.Batch(ops...); e != api.OK {
			t.Fatal(e)
		}
	}
	wantSame(t, "by hand", a, b)
}

// TestPackInTrouble: a batch's error is answered as it is, behind the batches ahead of it (P24.4, P24.5): the power, the tape,
// another hand in the store.
func TestPackInTrouble(t *testing.T) {
	start := func(bytes string) *rig { return filledOver(t, false, bytes) }
	for slots := 1; slots <= 2; slots++ {
		inTrouble(t, start, func(what string, a, b *rig) api.Errno {
			s, e := Pack(a.v, slots)
			want, code := plainPack(b.v, slots)
			if s != want || e != code {
				t.Errorf("%s: Pack = %q, %d, want %q, %d", what, s, e, want, code)
			}
			return e
		})
	}
}

// inTrouble does something to two vaults that are the same in all, and go wrong at each place where they can, and at last just
// behind it.
func inTrouble(t *testing.T, start func(bytes string) *rig, do func(what string, a, b *rig) api.Errno) {
	t.Helper()
	r := start(longTape)
	calls, drawn := r.w.Calls(), r.t.Drawn()
	trouble := map[api.Errno]func(n int) *rig{
		api.ErrDown: func(n int) *rig {
			r := start(longTape)
			r.w.Arm(n)
			return r
		},
		api.ErrEntropy: func(n int) *rig { return start(longTape[:drawn+61*n]) },
		api.ErrTampered: func(n int) *rig {
			r := start(longTape)
			if e := r.w.Plan(api.Edit{Before: calls + n, Kind: api.EditRestore}); e != api.OK {
				t.Fatalf("Plan: %d", e)
			}
			return r
		},
	}
	for want, make := range trouble {
		n, e := 0, want
		for ; e == want; n++ {
			what := fmt.Sprintf("trouble %d at %d", want, n)
			a, b := make(n), make(n)
			e = do(what, a, b)
			wantSame(t, what, a, b)
		}
		if e != api.OK || n < 10 {
			t.Errorf("trouble %d ends at %d with %d", want, n, e)
		}
	}
}

// TestPackOfTooMuch: of files whose text would be one byte too long not one is read; of one byte less all are (P24.5).
func TestPackOfTooMuch(t *testing.T) {
	r := made(t, api.Config{Slots: 64, Files: 256, Dirs: 0, MaxFile: 65536, Least: 16, Page: 65536}, false, longTape)
	entries := heavy(api.MaxArchive)
	text := summed(bodyOf(entries))
	wantUnpack(t, "as much as may be", r.v, 64, text, 256, api.OK)
	from := r.w.Calls()
	if s, e := Pack(r.v, 64); s != text || e != api.OK {
		t.Errorf("P24.5: as much as may be: %d bytes, %d", len(s), e)
	}
	if n := r.batches(from); n != 1+4+4 {
		t.Errorf("P24.5: as much as may be: %d batches", n)
	}
	last := entries[255]
	r.do(t, api.Op{Kind: api.OpCut, Path: last.Path, N: len(last.Data) + 1})
	from = r.w.Calls()
	if s, e := Pack(r.v, 64); s != "" || e != api.ErrBig {
		t.Errorf("P24.5: one byte more: %d bytes, %d", len(s), e)
	}
	if n := r.batches(from); n != 1+4 {
		t.Errorf("P24.5: one byte more: %d batches", n)
	}
	r.do(t, api.Op{Kind: api.OpCut, Path: "/000", N: 0})
	if s, e := Pack(r.v, 64); len(s) != api.MaxArchive+1-65536-4 || e != api.OK {
		t.Errorf("P24.5: less again: %d bytes, %d", len(s), e)
	}
}

// TestPackOfDeepVaults: directories as deep as may be are listed, too.
func TestPackOfDeepVaults(t *testing.T) {
	r := made(t, api.Config{Slots: 2, Files: 1, Dirs: 16, MaxFile: 9, Least: 16, Page: 1024}, false, longTape)
	entries := chain(strings.Repeat("n", 32), 16)
	for _, e := range entries {
		r.do(t, mkdir(e.Path))
	}
	from := r.w.Calls()
	wantPack(t, "deep", r.v, 2, summed(bodyOf(entries)), api.OK)
	if n := r.batches(from); n != 33 {
		t.Errorf("deep: %d batches", n)
	}
	r.do(t, api.Op{Kind: api.OpRmdir, Path: entries[15].Path}, create(entries[15].Path))
	entries[15].Kind = api.IsFile
	from = r.w.Calls()
	wantPack(t, "deep, a file", r.v, 2, summed(bodyOf(entries)), api.OK)
	if n := r.batches(from); n != 32 {
		t.Errorf("deep, a file: %d batches", n)
	}
}

// TestUnpackInTrouble: the number tells how many entries had all their operations answered OK, whatever ended it (P24.6).
func TestUnpackInTrouble(t *testing.T) {
	entries := []api.Entry{
		dirEntry("/d"), fileEntry("/d/0", "12345"), dirEntry("/d/e"), fileEntry("/d/e/f", ""), fileEntry("/d/g", "x"), fileEntry("/h", "y"), dirEntry("/i"),
	}
	numbers := map[int]int{}
	start := func(bytes string) *rig { return made(t, small(4), false, bytes) }
	for slots := 1; slots <= 2; slots++ {
		inTrouble(t, start, func(what string, a, b *rig) api.Errno {
			n, e := Unpack(a.v, slots, summed(bodyOf(entries)))
			want, code := plainUnpack(b.v, slots, entries)
			if n != want || e != code {
				t.Errorf("%s: Unpack = %d, %d, want %d, %d", what, n, e, want, code)
			}
			numbers[n]++
			return e
		})
	}
	for n := range 8 {
		if numbers[n] == 0 {
			t.Errorf("P24.6: the number %d did not come up: %v", n, numbers)
		}
	}
}

// TestUnpackRefused: operations that the vault refuses, at each place of a batch (P24.4, P24.6): the others of the batch are
// done all the same, and no further batch is.
func TestUnpackRefused(t *testing.T) {
	entries := []api.Entry{
		dirEntry("/a"), fileEntry("/b", "b"), fileEntry("/c", strings.Repeat("c", 50)), dirEntry("/d"), fileEntry("/e", "e"), dirEntry("/f"), fileEntry("/g", "g"),
	}
	codes := map[api.Errno]int{}
	for slots := 1; slots <= 6; slots++ {
		for files := 1; files <= 4; files++ {
			for dirs := 0; dirs <= 3; dirs++ {
				for _, most := range []int{0, 49, 50} {
					c := api.Config{Slots: 6, Files: files, Dirs: dirs, MaxFile: most, Least: 16, Page: 256}
					what := fmt.Sprintf("slots %d, %+v", slots, c)
					a, b := made(t, c, false, longTape[:100000]), made(t, c, false, longTape[:100000])
					n, e := Unpack(a.v, slots, summed(bodyOf(entries)))
					want, code := plainUnpack(b.v, slots, entries)
					if n != want || e != code || e != api.OK && (n < 0 || n >= 7) {
						t.Errorf("%s: Unpack = %d, %d, want %d, %d", what, n, e, want, code)
					}
					wantSame(t, what, a, b)
					if is, want := told(t, a.v), told(t, b.v); !slices.Equal(is, want) {
						t.Errorf("%s: what was made is %v, want %v", what, is, want)
					}
					codes[e]++
				}
			}
		}
	}
	if codes[api.OK] == 0 || codes[api.ErrRoom] == 0 || codes[api.ErrBig] == 0 || len(codes) != 3 {
		t.Errorf("P24.4: the codes %v", codes)
	}
}

// TestUnpackTellsTheFirst: by hand, batches in which more than one operation is refused, or one behind the first is done.
func TestUnpackTellsTheFirst(t *testing.T) {
	c := api.Config{Slots: 4, Files: 2, Dirs: 1, MaxFile: 3, Least: 16, Page: 256}
	entries := []api.Entry{fileEntry("/a", "long"), dirEntry("/b"), dirEntry("/c"), fileEntry("/d", "d"), fileEntry("/e", "")}
	r := made(t, c, false, longTape)
	wantUnpack(t, "the Write of /a, and the Mkdir of /c", r.v, 4, summed(bodyOf(entries)), 0, api.ErrBig)
	wantPack(t, "but /b is made", r.v, 4, summed(bodyOf([]api.Entry{fileEntry("/a", ""), dirEntry("/b")})), api.OK)
	r = made(t, c, false, longTape)
	wantUnpack(t, "batches of one", r.v, 1, summed(bodyOf(entries)), 0, api.ErrBig)
	wantPack(t, "and nothing is made behind it", r.v, 1, summed(bodyOf([]api.Entry{fileEntry("/a", "")})), api.OK)
	entries[0].Data = "lon"
	r = made(t, c, false, longTape)
	wantUnpack(t, "the Mkdir of /c", r.v, 3, summed(bodyOf(entries)), 2, api.ErrRoom)
	wantPack(t, "but /d is made", r.v, 3, summed(bodyOf([]api.Entry{fileEntry("/a", "lon"), dirEntry("/b"), fileEntry("/d", "d")})), api.OK)
}

// TestUnpackMoreThanSlots: a text of which the first batch is too large for the vault, and one that has no such batch.
func TestUnpackMoreThanSlots(t *testing.T) {
	for slots := 3; slots <= 64; slots += 61 {
		a, b := fresh(t, 4), fresh(t, 4)
		wantUnpack(t, "too many", a.v, slots, summed(body), 0, api.ErrBatch)
		b.v.Batch(list("/"))
		wantSame(t, "too many", a, b)
		wantUnpack(t, "few", a.v, slots, summed(bodyOf(grain()[:2])), 2, api.OK)
		wantPack(t, "few, and few told", a.v, slots, summed(bodyOf(grain()[:2])), api.OK)
	}
	r := fresh(t, 4)
	wantUnpack(t, "a file and its bytes", r.v, 64, summed(bodyOf([]api.Entry{fileEntry("/x", "bytes")})), 1, api.OK)
	wantUnpack(t, "used", r.v, 64, summed(bodyOf(nil)), 0, api.ErrUsed)
}

// someVault is a vault of some configuration with some tree in it.
func someVault(t *testing.T, r *rand.Rand) *rig {
	t.Helper()
	c := api.Config{Slots: 1 + r.Intn(6), Files: 1 + r.Intn(12), Dirs: r.Intn(8), MaxFile: r.Intn(200), Least: 16 + r.Intn(99), Page: 64 + r.Intn(999)}
	v := made(t, c, r.Intn(2) == 0, longTape)
	paths := []string{"", "/a", "/a!", "/b", "/a/a", "/a/b", "/a/a!", "/a!/b", "/a/a/~", "/a/b/a", "/a/b/.a", "/b/a/b"}
	for range 80 {
		p, q := paths[1+r.Intn(len(paths)-1)], paths[1+r.Intn(len(paths)-1)]
		ops := []api.Op{mkdir(p), mkdir(p), create(p), create(q), {Kind: api.OpWrite, Path: p, At: r.Intn(9), Data: longTape[:r.Intn(90)]}, {Kind: api.OpCut, Path: p, N: r.Intn(20)}, {Kind: api.OpRename, Path: p, To: q}, {Kind: api.OpRemove, Path: q}}
		if _, e := v.v.Batch(ops[r.Intn(len(ops))]); e != api.OK {
			t.Fatalf("Batch: %d", e)
		}
	}
	return v
}

// TestWhatFollows is P24.7: what Pack answers is what the vault's single operations tell, and changes nothing; a vault into which
// it is unpacked, of whatever configuration that has the room, packs to the same text, with whatever slots.
func TestWhatFollows(t *testing.T) {
	r := rand.New(rand.NewSource(7))
	entries := 0
	for range 60 {
		from := someVault(t, r)
		is := told(t, from.v)
		text := summed(bodyOf(is))
		for slots := 1; slots <= from.c.Slots; slots++ {
			wantPack(t, "P24.7", from.v, slots, text, api.OK)
		}
		if behind := told(t, from.v); !slices.Equal(is, behind) {
			t.Errorf("P24.7: behind Pack the vault says %v, and ahead of it %v", behind, is)
		}
		c := from.c
		c.Slots, c.Least, c.Page = 1+r.Intn(6), 16+r.Intn(99), 64+r.Intn(999)
		c.Files, c.Dirs, c.MaxFile = c.Files+r.Intn(9), c.Dirs+r.Intn(9), c.MaxFile+r.Intn(99)
		to := made(t, c, r.Intn(2) == 0, longTape)
		wantUnpack(t, "P24.7", to.v, 1+r.Intn(c.Slots), text, len(is), api.OK)
		for slots := 1; slots <= c.Slots; slots++ {
			wantPack(t, "P24.7, unpacked", to.v, slots, text, api.OK)
		}
		if behind := told(t, to.v); !slices.Equal(is, behind) {
			t.Errorf("P24.7: unpacked the vault says %v, and was to say %v", behind, is)
		}
		entries += len(is)
	}
	if entries < 200 {
		t.Errorf("P24.7: only %d entries in all", entries)
	}
}
