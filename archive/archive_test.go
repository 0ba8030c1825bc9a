package archive

import (
	"strings"
	"sync"
	"testing"

	"casket/api"
	"casket/vault"
)

// body is the bytes of the examples' text ahead of its last line.
const body = "casket archive 1\nentries 4\ndir /a\ndir /a!\nfile 5 /a/x\ngrain\nfile 0 /b\n\n"

func grain() []api.Entry {
	return []api.Entry{dirEntry("/a"), dirEntry("/a!"), fileEntry("/a/x", "grain"), fileEntry("/b", "")}
}

func TestExamplePack(t *testing.T) {
	if len(body) != 71 {
		t.Fatalf("example 1: %d bytes", len(body))
	}
	r := filled(t)
	wantPack(t, "example 1", r.v, 1, summed(body), api.OK)
	wantPack(t, "example 1", r.v, 2, summed(body), api.OK)
}

// TestExampleBatches does by hand, to a second vault that is the same in all, the batches that the example tells.
func TestExampleBatches(t *testing.T) {
	for slots, batches := range map[int][][]api.Op{
		1: {{list("/")}, {stat("/a")}, {stat("/a!")}, {stat("/b")}, {list("/a")}, {list("/a!")}, {stat("/a/x")}, {readOp("/a/x", 5)}},
		2: {{list("/")}, {stat("/a"), stat("/a!")}, {stat("/b")}, {list("/a"), list("/a!")}, {stat("/a/x")}, {readOp("/a/x", 5)}},
		3: {{list("/")}, {stat("/a"), stat("/a!"), stat("/b")}},
	} {
		a, b := filled(t), filled(t)
		from := a.w.Calls()
		if slots == 3 {
			wantPack(t, "example 2", a.v, 3, "", api.ErrBatch)
		} else {
			wantPack(t, "example 2", a.v, slots, summed(body), api.OK)
		}
		for _, ops := range batches {
			b.v.Batch(ops...)
		}
		wantSame(t, "example 2", a, b)
		if n := map[int]int{1: 8, 2: 6, 3: 1}[slots]; a.batches(from) != n {
			t.Errorf("example 2: %d batches of %d, want %d", a.batches(from), slots, n)
		}
	}
}

func TestExampleUnpack(t *testing.T) {
	a, b := fresh(t, 4), fresh(t, 4)
	from := a.w.Calls()
	wantUnpack(t, "example 3", a.v, 2, summed(body), 4, api.OK)
	if n := a.batches(from); n != 4 {
		t.Errorf("example 3: %d batches", n)
	}
	for _, ops := range [][]api.Op{{list("/")}, {mkdir("/a"), mkdir("/a!")}, {create("/a/x"), write("/a/x", "grain")}, {create("/b")}} {
		b.v.Batch(ops...)
	}
	wantSame(t, "example 3", a, b)
	wantUnpack(t, "example 3, again", a.v, 2, summed(body), 0, api.ErrUsed)
	b.v.Batch(list("/"))
	wantSame(t, "example 3, again", a, b)
}

func TestExampleSmallVault(t *testing.T) {
	r := fresh(t, 1)
	wantUnpack(t, "example 4", r.v, 2, summed(body), 3, api.ErrRoom)
	wantPack(t, "example 4", r.v, 2, summed(bodyOf(grain()[:3])), api.OK)
}

func TestExampleEmpty(t *testing.T) {
	empty := summed("casket archive 1\nentries 0\n")
	wantPrint(t, nil, empty, api.OK)
	wantPrint(t, []api.Entry{}, empty, api.OK)
	wantParse(t, empty, nil, api.OK)
	a, b := fresh(t, 4), fresh(t, 4)
	wantPack(t, "example 5", a.v, 2, empty, api.OK)
	b.v.Batch(list("/"))
	wantSame(t, "example 5", a, b)
	wantUnpack(t, "no entries", a.v, 2, empty, 0, api.OK)
	b.v.Batch(list("/"))
	wantSame(t, "no entries", a, b)
}

func TestExampleNoArchive(t *testing.T) {
	for _, entries := range [][]api.Entry{
		{fileEntry("/b", ""), fileEntry("/a", "")},
		{fileEntry("/a/x", "")},
		{fileEntry("/a", ""), fileEntry("/a/x", "")},
		{dirEntry("/")},
		{dirEntry("a")},
		{dirEntry("/a"), dirEntry("/a")},
		{{Path: "/a", Kind: api.IsDir, Data: "x"}},
		{{Path: "/a", Kind: 3}},
		{fileEntry("/a", strings.Repeat("x", 65537))},
	} {
		wantPrint(t, entries, "", api.ErrEntry)
	}
}

func TestExampleOtherTexts(t *testing.T) {
	turned := func(old, new string) string { return strings.Replace(body, old, new, 1) }
	whole := summed(body)
	wantParse(t, whole, grain(), api.OK)
	wantParse(t, strings.Replace(whole, "grain", "groin", 1), nil, api.ErrDigest)
	wantParse(t, summed(turned("file 5", "file 4")), nil, api.ErrArchive)
	wantParse(t, summed(turned("file 5", "file 05")), nil, api.ErrArchive)
	wantParse(t, summed(turned("entries 4", "entries 3")), nil, api.ErrArchive)
	wantParse(t, summed(turned("dir /a\n", "dir /a/\n")), nil, api.ErrEntry)
	wantParse(t, whole[:len(whole)-1], nil, api.ErrArchive)
	wantParse(t, whole+"\n", nil, api.ErrArchive)
	wantParse(t, whole+"x", nil, api.ErrArchive)
}

func TestExampleRefused(t *testing.T) {
	r := filled(t)
	from, drawn := r.w.Calls(), r.t.Drawn()
	wantPack(t, "example 8", nil, 0, "", api.ErrNil)
	wantPack(t, "example 8", r.v, 0, "", api.ErrArg)
	wantPack(t, "example 8", r.v, 65, "", api.ErrArg)
	wantUnpack(t, "example 8", r.v, 0, "x", 0, api.ErrArg)
	wantUnpack(t, "example 8", r.v, 1, "x", 0, api.ErrArchive)
	if r.w.Calls() != from || r.t.Drawn() != drawn {
		t.Errorf("example 8: %d calls, %d bytes drawn", r.w.Calls()-from, r.t.Drawn()-drawn)
	}
}

// TestRefusedInTheirOrder: of several errors it is the one that is named first (P24.5, P24.6), and no call is made.
func TestRefusedInTheirOrder(t *testing.T) {
	r := filled(t)
	r.w.Arm(0)
	r.v.Batch()
	from, drawn := r.w.Calls(), r.t.Drawn()
	if r.v.Code() != api.ErrDead {
		t.Fatalf("the vault's code: %d", r.v.Code())
	}
	for _, slots := range []int{-1 << 63, -1, 0, 65, 1<<63 - 1} {
		wantPack(t, "slots", r.v, slots, "", api.ErrArg)
		wantPack(t, "slots, nil", nil, slots, "", api.ErrNil)
		wantUnpack(t, "slots", r.v, slots, summed(body), 0, api.ErrArg)
		wantUnpack(t, "slots, bad text", r.v, slots, "", 0, api.ErrArg)
		wantUnpack(t, "slots, nil", nil, slots, "", 0, api.ErrNil)
	}
	for _, slots := range []int{1, 64} {
		wantPack(t, "dead", r.v, slots, "", api.ErrDead)
		wantPack(t, "nil", nil, slots, "", api.ErrNil)
		wantUnpack(t, "dead", r.v, slots, summed(body), 0, api.ErrDead)
		wantUnpack(t, "nil", nil, slots, summed(body), 0, api.ErrNil)
		for text, want := range map[string]api.Errno{
			strings.Repeat("x", api.MaxArchive+1): api.ErrBig,
			"":                                    api.ErrArchive,
			body + "sum 00\n":                     api.ErrDigest,
			summed(strings.Replace(body, "/b", "/B", 1)): api.ErrEntry,
		} {
			wantUnpack(t, "dead, bad text", r.v, slots, text, 0, want)
		}
	}
	if r.w.Calls() != from || r.t.Drawn() != drawn {
		t.Errorf("%d calls, %d bytes drawn", r.w.Calls()-from, r.t.Drawn()-drawn)
	}
}

func TestZeroVault(t *testing.T) {
	wantPack(t, "zero", new(vault.Vault), 1, "", api.ErrNil)
	wantUnpack(t, "zero", new(vault.Vault), 1, summed(body), 0, api.ErrNil)
}

// TestAnswersAreNewMemory: entries stay as they are, the spare room too, and what is written into an answer changes nothing.
func TestAnswersAreNewMemory(t *testing.T) {
	roomy := append(grain(), dirEntry("/x"), dirEntry("/y"), dirEntry("/z"))
	wantPrint(t, roomy[:4], summed(body), api.OK)
	for i, want := range append(grain(), dirEntry("/x"), dirEntry("/y"), dirEntry("/z")) {
		if roomy[i] != want {
			t.Errorf("P24.1: Print has changed entry %d: %+v", i, roomy[i])
		}
	}
	text := summed(body)
	first, _ := Parse(text)
	other, _ := Parse(text)
	for i := range first[:cap(first)] {
		first[:cap(first)][i] = api.Entry{Path: "?", Kind: 9, Data: "?"}
	}
	if len(other) != 4 || other[2] != grain()[2] {
		t.Errorf("P24.1: one answer's list is another's: %+v", other)
	}
	wantParse(t, text, grain(), api.OK)
}

// TestManyAtOnce: calls on vaults of their own have nothing in common (R5).
func TestManyAtOnce(t *testing.T) {
	var all sync.WaitGroup
	for range 4 {
		from, to := filled(t), fresh(t, 4)
		all.Go(func() {
			for slots := 1; slots < 3; slots++ {
				wantPack(t, "at once", from.v, slots, summed(body), api.OK)
			}
			wantUnpack(t, "at once", to.v, 2, summed(body), 4, api.OK)
			wantParse(t, summed(body), grain(), api.OK)
			wantPrint(t, grain(), summed(body), api.OK)
		})
	}
	all.Wait()
}
