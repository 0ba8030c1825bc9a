package seal

import (
	"crypto/hkdf"
	"crypto/sha256"
	"encoding/hex"
	"fmt"
	"math"
	"math/rand"
	"slices"
	"strings"
	"sync"
	"testing"

	"casket/aead"
	"casket/api"
)

// Both types are Sealers.
var (
	_ Sealer = (*Real)(nil)
	_ Sealer = (*Ideal)(nil)
)

var (
	zeros = strings.Repeat("\x00", 32)
	ones  = strings.Repeat("\x01", 24)
)

// somewhat is a text of that many bytes, of all values, in which no sixteen bytes come twice.
func somewhat(n int) string {
	b := make([]byte, n)
	x := uint32(88172645)
	for i := range b {
		x ^= x << 13
		x ^= x >> 17
		x ^= x << 5
		b[i] = byte(x >> 11)
	}
	return string(b)
}

// rising is that many bytes, from one on.
func rising(from, n int) string {
	b := make([]byte, n)
	for i := range b {
		b[i] = byte(from + i)
	}
	return string(b)
}

func raw(t *testing.T, digits string) string {
	t.Helper()
	b, err := hex.DecodeString(digits)
	if err != nil {
		t.Fatal(err)
	}
	return string(b)
}

func turned(text string, place, bit int) string {
	b := []byte(text)
	b[place] ^= 1 << bit
	return string(b)
}

// shown spares the reader a million digits.
func shown(s string) string {
	if len(s) > 100 {
		return fmt.Sprintf("%x .. (%d bytes)", s[:100], len(s))
	}
	return fmt.Sprintf("%x", s)
}

func mustReal(t *testing.T, master string) *Real {
	t.Helper()
	s, e := NewReal(master)
	if s == nil || e != api.OK {
		t.Fatalf("NewReal: %d", e)
	}
	return s
}

func mustIdeal(t *testing.T, table []api.Sealed) *Ideal {
	t.Helper()
	s, e := NewIdeal(table)
	if s == nil || e != api.OK {
		t.Fatalf("NewIdeal of %d rows: %d", len(table), e)
	}
	return s
}

// both is a new sealer of each type.
func both(t *testing.T) map[string]Sealer {
	t.Helper()
	return map[string]Sealer{"real": mustReal(t, zeros), "ideal": mustIdeal(t, nil)}
}

func mustSeal(t *testing.T, s Sealer, kind int, name, text, coins string) string {
	t.Helper()
	b, e := s.Seal(kind, name, text, coins)
	if e != api.OK {
		t.Fatalf("Seal(%d, %q, %d bytes, %d coins): %d", kind, name, len(text), len(coins), e)
	}
	return b
}

func wantText(t *testing.T, what, got, want string) {
	t.Helper()
	if got != want {
		t.Errorf("%s: %s, want %s", what, shown(got), shown(want))
	}
}

func wantOpens(t *testing.T, s Sealer, kind int, name, blob, text string) {
	t.Helper()
	if x, e := s.Open(kind, name, blob); x != text || e != api.OK {
		t.Errorf("Open(%d, %q, %s): %s, %d, want %s", kind, name, shown(blob), shown(x), e, shown(text))
	}
}

// wantShut: an error comes with the empty text.
func wantShut(t *testing.T, s Sealer, kind int, name, blob string, want api.Errno) {
	t.Helper()
	if x, e := s.Open(kind, name, blob); x != "" || e != want {
		t.Errorf("Open(%d, %q, %s): %s, %d, want %d", kind, name, shown(blob), shown(x), e, want)
	}
}

func wantRefused(t *testing.T, s Sealer, kind int, name, text, coins string, want api.Errno) {
	t.Helper()
	if b, e := s.Seal(kind, name, text, coins); b != "" || e != want {
		t.Errorf("Seal(%d, %d bytes, %d bytes, %d coins): %s, %d, want %d", kind, len(name), len(text), len(coins), shown(b), e, want)
	}
}

func wantTable(t *testing.T, s *Ideal, want []api.Sealed) {
	t.Helper()
	if got := s.Table(); !slices.Equal(got, want) {
		t.Errorf("Table: %d rows, %.300q, want %d, %.300q", len(got), fmt.Sprint(got), len(want), fmt.Sprint(want))
	}
}

// first is the fault that is told where several apply.
func first(faults ...api.Errno) api.Errno {
	for _, e := range faults {
		if e != api.OK {
			return e
		}
	}
	return api.OK
}

func faultIf(wrong bool, e api.Errno) api.Errno {
	if wrong {
		return e
	}
	return api.OK
}

// What follows does the document's words once more, with the library's keys and one text joined, against which the real
// sealer is held.

func plainKey(t *testing.T, master string, kind int) string {
	t.Helper()
	key, err := hkdf.Key(sha256.New, []byte(master), []byte("casket"), string([]byte{byte(kind)}), 32)
	if err != nil {
		t.Fatal(err)
	}
	return string(key)
}

func plainBlob(t *testing.T, master string, kind int, name, text, coins string) string {
	t.Helper()
	return coins + plainBox(t, plainKey(t, master, kind), coins, string([]byte{byte(kind)})+name, text)
}

func plainBox(t *testing.T, key, nonce, aad, text string) string {
	t.Helper()
	box, e := aead.Seal(key, nonce, aad, text)
	if e != api.OK {
		t.Fatalf("aead.Seal: %d", e)
	}
	return box
}

// plainIdeal is the document's table, looked through row by row, against which the ideal sealer is held.
type plainIdeal struct{ rows []api.Sealed }

func (p *plainIdeal) gave(coins string) bool {
	for _, r := range p.rows {
		if strings.HasSuffix(coins, r.Blob[len(r.Blob)-16:]) {
			return true
		}
	}
	return false
}

func (p *plainIdeal) fresh(coins string) bool {
	return len(coins) >= 40 && len(coins) <= 1048616 && !p.gave(coins)
}

func (p *plainIdeal) seal(kind int, name, text, coins string) (string, api.Errno) {
	e := first(faultIf(kind < 1 || kind > 3, api.ErrKind), faultIf(len(name) > 64, api.ErrArg), faultIf(len(text) > 1048576, api.ErrBig),
		faultIf(len(coins) != len(text)+40, api.ErrCoins), faultIf(p.gave(coins), api.ErrStale))
	if e != api.OK {
		return "", e
	}
	p.rows = append(p.rows, api.Sealed{Kind: kind, Name: name, Blob: coins, Text: text})
	return coins, api.OK
}

func (p *plainIdeal) open(kind int, name, blob string) (string, api.Errno) {
	if e := first(faultIf(kind < 1 || kind > 3, api.ErrKind), faultIf(len(name) > 64, api.ErrArg)); e != api.OK {
		return "", e
	}
	for _, r := range p.rows {
		if r.Kind == kind && r.Name == name && r.Blob == blob {
			return r.Text, api.OK
		}
	}
	return "", api.ErrSealed
}

// P8.1

// notThere is what is as a nil sealer: nil ones, and structs that no call made.
func notThere() map[string]Sealer {
	var r *Real
	var i *Ideal
	return map[string]Sealer{"a nil real one": r, "a nil ideal one": i, "a zero real one": &Real{}, "a zero ideal one": &Ideal{}}
}

func oddKinds() []int {
	return []int{math.MinInt, -1 << 32, -256, -1, 0, 1, 2, 3, 4, 255, 257, 1 << 32, 1<<32 + 1, math.MaxInt}
}

func oddTexts() []string {
	return []string{"", "\x00", "n", somewhat(15), somewhat(16), somewhat(23), somewhat(24), somewhat(25), somewhat(39), somewhat(40), somewhat(41),
		somewhat(63), somewhat(64), somewhat(65), somewhat(104), strings.Repeat("\xff", 1048575), strings.Repeat("\xff", 1048576), strings.Repeat("\xff", 1048577),
		strings.Repeat("\xff", 1048615), strings.Repeat("\xff", 1048616), strings.Repeat("\xff", 1048617), strings.Repeat("\xff", 1<<22)}
}

func TestEveryCallEnds(t *testing.T) {
	sealers := notThere()
	for name, s := range both(t) {
		sealers[name] = s
	}
	for _, x := range oddTexts() {
		Tag(x)
		NewReal(x)
		NewIdeal([]api.Sealed{{Kind: 1, Name: x}, {Kind: 1, Text: x}, {Kind: 1, Blob: x}})
		for _, s := range sealers {
			s.Fresh(x)
			for _, kind := range oddKinds() {
				s.Open(kind, x, x)
				s.Open(kind, "n", x)
				s.Seal(kind, x, "", "")
				s.Seal(kind, "", x, "")
				s.Seal(kind, "", "", x)
				s.Seal(kind, x, x, x)
				s.Coins(kind)
				s.Coins(len(x))
			}
		}
	}
}

func TestASealerThatIsNotThere(t *testing.T) {
	for what, s := range notThere() {
		for _, size := range []int{math.MinInt, -1, 0, 1, 24, 1048576, 1048577, math.MaxInt} {
			if s.Coins(size) != 0 {
				t.Errorf("%s: Coins(%d) = %d", what, size, s.Coins(size))
			}
		}
		for _, x := range oddTexts() {
			if s.Fresh(x) {
				t.Errorf("%s: %d coins are fresh", what, len(x))
			}
			for _, kind := range oddKinds() {
				wantRefused(t, s, kind, "n", "", x, api.ErrNil)
				wantRefused(t, s, kind, x, "ab", rising(0, 42), api.ErrNil)
				wantShut(t, s, kind, "n", x, api.ErrNil)
				wantShut(t, s, kind, x, x, api.ErrNil)
			}
		}
	}
	var none *Ideal
	for _, s := range []*Ideal{none, {}} {
		if len(s.Table()) != 0 {
			t.Errorf("a table of a sealer that is not there: %v", s.Table())
		}
	}
}

// someRows is that many rows, of unlike lengths.
func someRows(n int) []api.Sealed {
	var rows []api.Sealed
	all := somewhat(60*n + n*n)
	for i := range n {
		size := i * 7 % 19
		rows = append(rows, api.Sealed{Kind: 1 + i%3, Name: rising(i, i%65), Blob: all[:40+size], Text: rising(i, size)})
		all = all[40+size:]
	}
	return rows
}

func TestWhatIsHandedInIsLeftAsItIs(t *testing.T) {
	behind := api.Sealed{Kind: 7, Name: "behind"}
	room := append(someRows(5), behind, behind)
	table, before := room[:5], slices.Clone(room)
	s := mustIdeal(t, table)
	mustSeal(t, s, 1, "n", "ab", rising(0, 42))
	s.Open(1, "n", rising(0, 42))
	if !slices.Equal(room, before) {
		t.Error("what was handed in is changed")
	}
	clear(room)
	wantTable(t, s, append(slices.Clone(before[:5]), api.Sealed{Kind: 1, Name: "n", Blob: rising(0, 42), Text: "ab"}))
	wantOpens(t, s, before[4].Kind, before[4].Name, before[4].Blob, before[4].Text)
}

func TestATableIsNewMemory(t *testing.T) {
	for n := range 20 {
		s, want := mustIdeal(t, someRows(n)), someRows(n)
		one, other := s.Table(), s.Table()
		clear(one[:cap(one)])
		if !slices.Equal(other, want) {
			t.Fatalf("%d rows: two tables share their memory", n)
		}
		clear(other[:cap(other)])
		mustSeal(t, s, 2, "m", "", rising(1, 40))
		want = append(want, api.Sealed{Kind: 2, Name: "m", Blob: rising(1, 40)})
		wantTable(t, s, want)
		if len(one) != n || len(other) != n || slices.ContainsFunc(one[:cap(one)], func(r api.Sealed) bool { return r != api.Sealed{} }) {
			t.Fatalf("%d rows: a later row is seen in an earlier table", n)
		}
		for _, r := range want {
			wantOpens(t, s, r.Kind, r.Name, r.Blob, r.Text)
		}
	}
}

func TestNoTableMayBeNilOrEmpty(t *testing.T) {
	for _, table := range [][]api.Sealed{nil, {}, make([]api.Sealed, 0, 9)} {
		s := mustIdeal(t, table)
		wantTable(t, s, nil)
		wantText(t, "Seal", mustSeal(t, s, 1, "n", "ab", rising(0, 42)), rising(0, 42))
	}
}

func TestTwoSealersHaveNothingInCommon(t *testing.T) {
	a, b := mustIdeal(t, nil), mustIdeal(t, nil)
	mustSeal(t, a, 1, "n", "ab", rising(0, 42))
	wantTable(t, b, nil)
	wantShut(t, b, 1, "n", rising(0, 42), api.ErrSealed)
	if !b.Fresh(rising(0, 42)) || a.Fresh(rising(0, 42)) {
		t.Error("what one sealer gave, the other one knows")
	}
	mustSeal(t, b, 2, "m", "cd", rising(0, 42))
	wantOpens(t, a, 1, "n", rising(0, 42), "ab")
	wantOpens(t, b, 2, "m", rising(0, 42), "cd")

	c := mustIdeal(t, a.Table())
	mustSeal(t, c, 3, "c", "c", somewhat(41))
	mustSeal(t, a, 3, "a", "a", somewhat(41))
	wantOpens(t, a, 3, "a", somewhat(41), "a")
	wantOpens(t, c, 3, "c", somewhat(41), "c")
	wantShut(t, a, 3, "c", somewhat(41), api.ErrSealed)
}

// TestACopyIsTheSameSealer: the document says nothing of it; but no tag is given twice, whatever is copied.
func TestACopyIsTheSameSealer(t *testing.T) {
	s := mustIdeal(t, someRows(3))
	c := *s
	mustSeal(t, &c, 1, "n", "ab", rising(0, 42))
	wantOpens(t, s, 1, "n", rising(0, 42), "ab")
	wantRefused(t, s, 1, "n", "ab", rising(0, 42), api.ErrStale)
	mustSeal(t, s, 1, "n", "cd", rising(1, 42))
	wantOpens(t, &c, 1, "n", rising(1, 42), "cd")
	wantTable(t, &c, s.Table())
	r := *mustReal(t, zeros)
	wantText(t, "Seal of a copy", mustSeal(t, &r, 1, "n", "ab", ones), mustSeal(t, mustReal(t, zeros), 1, "n", "ab", ones))
}

// TestOpeningAtTheSameTime: to open changes nothing, so that several may open at once.
func TestOpeningAtTheSameTime(t *testing.T) {
	r, i := mustReal(t, somewhat(32)), mustIdeal(t, someRows(60))
	blob := mustSeal(t, r, 1, "n", "ab", ones)
	var wait sync.WaitGroup
	for range 8 {
		wait.Go(func() {
			for _, row := range someRows(60) {
				wantOpens(t, i, row.Kind, row.Name, row.Blob, row.Text)
				wantOpens(t, r, 1, "n", blob, "ab")
				if i.Fresh(row.Blob) || !r.Fresh(ones) || len(i.Table()) != 60 {
					t.Error("Fresh, Table")
				}
			}
		})
	}
	wait.Wait()
}

// P8.2

func TestTag(t *testing.T) {
	if Overhead != 40 {
		t.Errorf("Overhead is %d", Overhead)
	}
	for n := range 16 {
		wantText(t, fmt.Sprintf("Tag of %d bytes", n), Tag(somewhat(n)), "")
	}
	for _, n := range []int{16, 17, 31, 32, 33, 40, 42, 1000, 1048616, 1048617} {
		wantText(t, fmt.Sprintf("Tag of %d bytes", n), Tag(somewhat(n)), somewhat(n)[n-16:])
	}
	wantText(t, "Tag", Tag(rising(0, 42)), rising(26, 16))
	wantText(t, "Tag of zeros", Tag(zeros), zeros[:16])
}

func TestTheTagOfABlobIsItsBoxs(t *testing.T) {
	blob := mustSeal(t, mustReal(t, zeros), 1, "n", "ab", ones)
	wantText(t, "Tag", Tag(blob), plainBlob(t, zeros, 1, "n", "ab", ones)[26:])
}

// P8.3

func TestCoins(t *testing.T) {
	r, i := mustReal(t, somewhat(32)), mustIdeal(t, someRows(4))
	for _, size := range []int{0, 1, 2, 15, 16, 24, 39, 40, 41, 255, 256, 65535, 65536, 1048575, 1048576} {
		if r.Coins(size) != 24 || i.Coins(size) != size+40 {
			t.Errorf("Coins(%d) = %d, %d", size, r.Coins(size), i.Coins(size))
		}
	}
	for _, size := range []int{-1, -2, -24, -40, -41, math.MinInt32, math.MinInt, math.MinInt + 1, math.MinInt + 40, 1048577, 1048616, 1048617, 1 << 32, 1<<32 + 1, math.MaxInt - 40, math.MaxInt} {
		if r.Coins(size) != 0 || i.Coins(size) != 0 {
			t.Errorf("Coins(%d) = %d, %d", size, r.Coins(size), i.Coins(size))
		}
	}
}

func TestABlobIsOverheadLonger(t *testing.T) {
	for what, s := range both(t) {
		for _, n := range []int{0, 1, 2, 15, 16, 17, 63, 64, 65, 1000, 1048575, 1048576} {
			coins := somewhat(s.Coins(n))
			blob := mustSeal(t, s, 1, "n", strings.Repeat("x", n), coins)
			if len(blob) != n+Overhead || !strings.HasPrefix(blob, coins) {
				t.Errorf("%s: a blob of %d bytes of a text of %d", what, len(blob), n)
			}
			wantOpens(t, s, 1, "n", blob, strings.Repeat("x", n))
		}
	}
}

// P8.4

func lengths(ns ...int) []string {
	var all []string
	for _, n := range ns {
		all = append(all, somewhat(n))
	}
	return all
}

func placeFault(kind int, name string) api.Errno {
	return first(faultIf(kind != 1 && kind != 2 && kind != 3, api.ErrKind), faultIf(len(name) > 64, api.ErrArg))
}

func TestSealTellsTheFirstFault(t *testing.T) {
	used := somewhat(42)
	for _, kind := range oddKinds() {
		for _, name := range lengths(0, 1, 63, 64, 65, 66, 256) {
			for _, text := range lengths(0, 2, 3, 1048577) {
				for _, coins := range append(lengths(0, 1, 23, 24, 25, 39, 40, 41, 43, 44), used, "x"+used, used[1:], used+"x") {
					sized := first(placeFault(kind, name), faultIf(len(text) > 1048576, api.ErrBig))
					real := first(sized, faultIf(len(coins) != 24, api.ErrCoins))
					ideal := first(sized, faultIf(len(coins) != len(text)+40, api.ErrCoins), faultIf(strings.HasSuffix(coins, used[26:]), api.ErrStale))
					holdSeal(t, mustReal(t, zeros), kind, name, text, coins, real)
					s := mustIdeal(t, []api.Sealed{{Kind: 2, Name: "m", Blob: used, Text: "ab"}})
					holdSeal(t, s, kind, name, text, coins, ideal)
					if ideal != api.OK {
						wantTable(t, s, []api.Sealed{{Kind: 2, Name: "m", Blob: used, Text: "ab"}})
					}
				}
			}
		}
	}
}

func holdSeal(t *testing.T, s Sealer, kind int, name, text, coins string, want api.Errno) {
	t.Helper()
	if want != api.OK {
		wantRefused(t, s, kind, name, text, coins, want)
		return
	}
	wantOpens(t, s, kind, name, mustSeal(t, s, kind, name, text, coins), text)
}

func TestTheGreatestTextIsTakenAndOneMoreIsNot(t *testing.T) {
	for what, s := range both(t) {
		text := somewhat(1048577)
		blob := mustSeal(t, s, 3, somewhat(64), text[:1048576], somewhat(s.Coins(1048576)))
		if len(blob) != 1048616 {
			t.Errorf("%s: %d bytes", what, len(blob))
		}
		wantOpens(t, s, 3, somewhat(64), blob, text[:1048576])
		for _, n := range []int{0, 24, 40, 1048616, 1048617} {
			wantRefused(t, s, 3, somewhat(64), text, rising(1, n), api.ErrBig)
			wantRefused(t, s, 3, somewhat(65), text, rising(1, n), api.ErrArg)
			wantRefused(t, s, 0, somewhat(65), text, rising(1, n), api.ErrKind)
		}
	}
}

func TestOpenTellsTheFirstFault(t *testing.T) {
	for _, kind := range oddKinds() {
		for _, name := range lengths(0, 1, 64, 65, 256) {
			for _, blob := range lengths(0, 1, 15, 16, 24, 39, 40, 41, 42, 1048615, 1048616, 1048617) {
				for _, s := range both(t) {
					wantShut(t, s, kind, name, blob, first(placeFault(kind, name), api.ErrSealed))
				}
			}
		}
	}
}

// P8.5

func TestNewReal(t *testing.T) {
	for n := range 100 {
		s, e := NewReal(somewhat(n))
		if n == 32 && (s == nil || e != api.OK) || n != 32 && (s != nil || e != api.ErrKey) {
			t.Errorf("NewReal of %d bytes: %v, %d", n, s != nil, e)
		}
	}
}

func TestFreshOfTheRealSealer(t *testing.T) {
	s := mustReal(t, zeros)
	for n := range 100 {
		if s.Fresh(somewhat(n)) != (n == 24) {
			t.Errorf("Fresh of %d coins: %v", n, s.Fresh(somewhat(n)))
		}
	}
	if s.Fresh(somewhat(1048576+24)) || s.Fresh(somewhat(1048616)) {
		t.Error("Fresh of very many coins")
	}
	mustSeal(t, s, 1, "n", "ab", ones)
	if !s.Fresh(ones) {
		t.Error("the real sealer remembers its coins")
	}
}

// TestBlobsOfAnotherProgram: made of the same arguments, by other hands.
func TestBlobsOfAnotherProgram(t *testing.T) {
	master, coins := rising(100, 32), rising(200, 24)
	for _, c := range []struct {
		master     string
		kind       int
		name, text string
		coins      string
		digits     string
	}{
		{zeros, 1, "n", "ab", ones, "0101010101010101010101010101010101010101010101011d83468576f00319aef0d2773617469677f3"},
		{zeros, 2, "n", "ab", ones, "010101010101010101010101010101010101010101010101621f4fb445cea780e69a038d78170e216a2a"},
		{zeros, 3, "n", "ab", ones, "010101010101010101010101010101010101010101010101e1e16ed4705b5e84b89bc9214139bc6d468e"},
		{master, 1, "", "", coins, "c8c9cacbcccdcecfd0d1d2d3d4d5d6d7d8d9dadbdcdddedfbfb65a7bbab0bcb8953eea4b0fe456b4"},
		{master, 2, rising(0, 64), rising(0, 100), coins, "c8c9cacbcccdcecfd0d1d2d3d4d5d6d7d8d9dadbdcdddedf361743be3a0619898f5385beb607d6eb5c942d977b91955c5018440d9b3397fc0ba7d62ad400080a504c7a0e5a870cc32c90532924fb1d953eb7dadfaaf20b3a94543030962a44817b044fd21b181854c16164ce1ad55bab011fd256eb7633a2b69ff5a5f286d91fb96ca48b6831b7dd504879be"},
	} {
		s := mustReal(t, c.master)
		wantText(t, "Seal", mustSeal(t, s, c.kind, c.name, c.text, c.coins), raw(t, c.digits))
		wantOpens(t, s, c.kind, c.name, raw(t, c.digits), c.text)
	}
	sum := sha256.Sum256([]byte(mustSeal(t, mustReal(t, master), 3, "root", rising(0, 1048576), coins)))
	wantText(t, "the sum of the greatest blob", string(sum[:]), raw(t, "1e294f6f3a107b2f6f14c0b443e94b45d0459a8c01a4ea538d397a25239e0a4f"))
}

func TestRealSealsAsTheDocumentSays(t *testing.T) {
	for i := range 40 {
		master, coins := somewhat(32 + i)[i:], somewhat(124 + i)[100+i:]
		s := mustReal(t, master)
		for kind := 1; kind <= 3; kind++ {
			for _, name := range []string{"", "\x00", "root", rising(i, 63), rising(i, 64)} {
				text := rising(3*i, 5*i)
				want := plainBlob(t, master, kind, name, text, coins)
				wantText(t, "Seal", mustSeal(t, s, kind, name, text, coins), want)
				wantOpens(t, s, kind, name, want, text)
			}
		}
	}
}

// TestRealOpensNothingElse: not another kind, name or key, and no blob in which a bit is turned, a byte away or more.
func TestRealOpensNothingElse(t *testing.T) {
	s := mustReal(t, zeros)
	for kind := 1; kind <= 3; kind++ {
		blob := mustSeal(t, s, kind, "n", "ab", ones)
		for other := 1; other <= 3; other++ {
			if other != kind {
				wantShut(t, s, other, "n", blob, api.ErrSealed)
			}
		}
		for _, name := range []string{"", "m", "N", "nn", "n\x00", "\x00n", rising(kind, 1) + "n", "\x01", "\x02", "\x03", strings.Repeat("n", 64)} {
			wantShut(t, s, kind, name, blob, api.ErrSealed)
		}
		for place := range len(blob) {
			for bit := range 8 {
				wantShut(t, s, kind, "n", turned(blob, place, bit), api.ErrSealed)
			}
			wantShut(t, s, kind, "n", blob[:place], api.ErrSealed)
			wantShut(t, s, kind, "n", blob[place+1:], api.ErrSealed)
			wantShut(t, s, kind, "n", blob[:place]+blob[place+1:], api.ErrSealed)
			wantShut(t, s, kind, "n", blob[:place]+"x"+blob[place:], api.ErrSealed)
		}
		wantShut(t, s, kind, "n", blob+"\x00", api.ErrSealed)
		for place := range 32 {
			wantShut(t, mustReal(t, turned(zeros, place, place%8)), kind, "n", blob, api.ErrSealed)
		}
	}
}

// TestTheKeyAndTheAadAreTheDocuments: boxes of a key that is made otherwise, or with the aad in another form, do not open.
func TestTheKeyAndTheAadAreTheDocuments(t *testing.T) {
	s, master := mustReal(t, somewhat(32)), somewhat(32)
	key := plainKey(t, master, 2)
	wantOpens(t, s, 2, "name", ones+plainBox(t, key, ones, "\x02name", "text"), "text")
	for _, aad := range []string{"", "\x02", "name", "name\x02", "2name", "\x00\x02name", "\x02\x00name", "\x02name\x00", "\x01name", "\x03name", "casket\x02name"} {
		wantShut(t, s, 2, "name", ones+plainBox(t, key, ones, aad, "text"), api.ErrSealed)
	}
	for _, key := range []string{master, plainKey(t, master, 0), plainKey(t, master, 1), plainKey(t, master, 3), plainKey(t, master, '2'), plainKey(t, key, 2)} {
		wantShut(t, s, 2, "name", ones+plainBox(t, key, ones, "\x02name", "text"), api.ErrSealed)
	}
}

func TestHowLongARealBlobMayBe(t *testing.T) {
	s, key := mustReal(t, zeros), plainKey(t, zeros, 1)
	for _, n := range []int{0, 1, 1048575, 1048576} {
		wantOpens(t, s, 1, "n", ones+plainBox(t, key, ones, "\x01n", somewhat(n)), somewhat(n))
	}
	greatest := ones + plainBox(t, key, ones, "\x01n", somewhat(1048576))
	wantShut(t, s, 1, "n", greatest+"\x00", api.ErrSealed)
	wantShut(t, s, 1, "n", "\x00"+greatest, api.ErrSealed)
	least := ones + plainBox(t, key, ones, "\x01n", "")
	for n := range 40 {
		wantShut(t, s, 1, "n", least[:n], api.ErrSealed)
		wantShut(t, s, 1, "n", least[40-n:], api.ErrSealed)
	}
}

// P8.6

// spoilt is rows that may not be, each with its fault, behind a first row {1 n c42 ab}.
func spoilt() map[string]struct {
	row  api.Sealed
	want api.Errno
} {
	c42, big, long := rising(0, 42), somewhat(1048577), somewhat(65)
	type fault = struct {
		row  api.Sealed
		want api.Errno
	}
	return map[string]fault{
		"kind 0, and all else":     {api.Sealed{Kind: 0, Name: long, Blob: c42, Text: big}, api.ErrKind},
		"kind 4":                   {api.Sealed{Kind: 4, Name: "n", Blob: somewhat(42), Text: "ab"}, api.ErrKind},
		"kind -1":                  {api.Sealed{Kind: -1, Name: "n", Blob: somewhat(42), Text: "ab"}, api.ErrKind},
		"kind 257":                 {api.Sealed{Kind: 257, Name: "n", Blob: somewhat(42), Text: "ab"}, api.ErrKind},
		"a long name, and more":    {api.Sealed{Kind: 1, Name: long, Blob: c42, Text: big}, api.ErrArg},
		"a long name":              {api.Sealed{Kind: 1, Name: long, Blob: somewhat(42), Text: "ab"}, api.ErrArg},
		"a great text, stale":      {api.Sealed{Kind: 1, Name: "n", Blob: c42, Text: big}, api.ErrBig},
		"a great text":             {api.Sealed{Kind: 1, Name: "n", Blob: somewhat(1048617), Text: big}, api.ErrBig},
		"no blob":                  {api.Sealed{Kind: 1, Name: "n", Text: "ab"}, api.ErrCoins},
		"nothing at all":           {api.Sealed{Kind: 1}, api.ErrCoins},
		"a short blob":             {api.Sealed{Kind: 1, Name: "n", Blob: somewhat(41), Text: "ab"}, api.ErrCoins},
		"a long blob":              {api.Sealed{Kind: 1, Name: "n", Blob: somewhat(43), Text: "ab"}, api.ErrCoins},
		"a real blob":              {api.Sealed{Kind: 1, Name: "n", Blob: somewhat(24), Text: "ab"}, api.ErrCoins},
		"a short blob, stale":      {api.Sealed{Kind: 1, Name: "n", Blob: c42[1:], Text: "ab"}, api.ErrCoins},
		"the same row":             {api.Sealed{Kind: 1, Name: "n", Blob: c42, Text: "ab"}, api.ErrStale},
		"the same blob":            {api.Sealed{Kind: 2, Name: "m", Blob: c42, Text: "cd"}, api.ErrStale},
		"the same tag":             {api.Sealed{Kind: 3, Name: "", Blob: somewhat(26) + c42[26:], Text: "cd"}, api.ErrStale},
		"the same tag, longer":     {api.Sealed{Kind: 3, Name: "", Blob: "x" + c42, Text: "cde"}, api.ErrStale},
		"the same tag, the least":  {api.Sealed{Kind: 3, Name: "", Blob: c42[2:], Text: ""}, api.ErrStale},
		"the same tag, very great": {api.Sealed{Kind: 3, Name: "", Blob: somewhat(1048600) + c42[26:], Text: big[1:]}, api.ErrStale},
	}
}

func TestNewIdealRefusesRowsThatMayNotBe(t *testing.T) {
	good := api.Sealed{Kind: 1, Name: "n", Blob: rising(0, 42), Text: "ab"}
	for what, c := range spoilt() {
		for _, table := range [][]api.Sealed{{good, c.row}, append(append([]api.Sealed{good}, someRows(7)...), c.row, api.Sealed{}, api.Sealed{Kind: 1, Name: somewhat(65)})} {
			if s, e := NewIdeal(table); s != nil || e != c.want {
				t.Errorf("NewIdeal with %s: %v, %d, want %d", what, s != nil, e, c.want)
			}
		}
		if c.want == api.ErrStale { // the earlier row makes it one
			mustIdeal(t, []api.Sealed{c.row})
			if _, e := NewIdeal([]api.Sealed{c.row, good}); e != api.ErrStale {
				t.Errorf("NewIdeal with %s first: %d", what, e)
			}
		} else if s, e := NewIdeal([]api.Sealed{c.row, good}); s != nil || e != c.want {
			t.Errorf("NewIdeal with %s first: %v, %d, want %d", what, s != nil, e, c.want)
		}
	}
}

func TestTheFirstRowThatMayNotBeIsTold(t *testing.T) {
	good := api.Sealed{Kind: 1, Name: "n", Blob: rising(0, 42), Text: "ab"}
	for what, a := range spoilt() {
		for other, b := range spoilt() {
			if s, e := NewIdeal([]api.Sealed{good, a.row, b.row}); s != nil || e != a.want {
				t.Errorf("NewIdeal with %s ahead of %s: %v, %d, want %d", what, other, s != nil, e, a.want)
			}
		}
	}
}

// TestATagNearAnotherIsAnother: a blob of which all but one of the last sixteen bytes are another's is fresh.
func TestATagNearAnotherIsAnother(t *testing.T) {
	c42 := rising(0, 42)
	s := mustIdeal(t, []api.Sealed{{Kind: 1, Name: "n", Blob: c42, Text: "ab"}})
	for place := range 42 {
		for bit := range 8 {
			near := turned(c42, place, bit)
			if s.Fresh(near) != (place >= 26) {
				t.Errorf("Fresh, with byte %d another one: %v", place, s.Fresh(near))
			}
			_, e := NewIdeal([]api.Sealed{{Kind: 1, Name: "n", Blob: c42, Text: "ab"}, {Kind: 1, Name: "n", Blob: near, Text: "ab"}})
			if e != faultIf(place < 26, api.ErrStale) {
				t.Errorf("NewIdeal, with byte %d another one: %d", place, e)
			}
		}
	}
}

func TestFreshOfTheIdealSealer(t *testing.T) {
	s := mustIdeal(t, []api.Sealed{{Kind: 1, Name: "n", Blob: rising(0, 42), Text: "ab"}})
	for _, n := range []int{0, 1, 15, 16, 24, 38, 39, 40, 41, 42, 100, 1048575, 1048576, 1048577, 1048615, 1048616, 1048617, 1048618, 1 << 22} {
		if s.Fresh(somewhat(n)) != (n >= 40 && n <= 1048616) {
			t.Errorf("Fresh of %d coins: %v", n, s.Fresh(somewhat(n)))
		}
		if s.Fresh(somewhat(n) + rising(26, 16)) {
			t.Errorf("Fresh of %d coins with a tag that was given", n+16)
		}
	}
	wantTable(t, s, []api.Sealed{{Kind: 1, Name: "n", Blob: rising(0, 42), Text: "ab"}})
}

func TestIdealExamples(t *testing.T) {
	s, c42 := mustIdeal(t, nil), rising(0, 42)
	if !s.Fresh(c42) || s.Fresh(rising(0, 39)) {
		t.Error("Fresh")
	}
	wantText(t, "Seal", mustSeal(t, s, 1, "n", "ab", c42), c42)
	wantOpens(t, s, 1, "n", c42, "ab")
	if s.Fresh(c42) {
		t.Error("Fresh of coins that were used")
	}
	wantRefused(t, s, 2, "m", "cd", c42, api.ErrStale)
	wantShut(t, s, 2, "n", c42, api.ErrSealed)
	wantShut(t, s, 1, "n", "", api.ErrSealed)
	wantTable(t, s, []api.Sealed{{Kind: 1, Name: "n", Blob: c42, Text: "ab"}})
	if s, e := NewIdeal(append(s.Table(), s.Table()...)); s != nil || e != api.ErrStale {
		t.Errorf("NewIdeal of a table twice over: %v, %d", s != nil, e)
	}
}

func TestRealExamples(t *testing.T) {
	s := mustReal(t, zeros)
	blob := mustSeal(t, s, 1, "n", "ab", ones)
	if len(blob) != 42 || blob[:24] != ones || !s.Fresh(ones) || s.Fresh(rising(0, 42)) {
		t.Errorf("Seal, Fresh: %x", blob)
	}
	wantOpens(t, s, 1, "n", blob, "ab")
	wantShut(t, s, 2, "n", blob, api.ErrSealed)
	wantShut(t, s, 1, "m", blob, api.ErrSealed)
	wantShut(t, s, 1, "n", blob[:41], api.ErrSealed)
	wantRefused(t, s, 0, "n", "ab", "", api.ErrKind)
	wantRefused(t, s, 1, somewhat(65), "ab", "", api.ErrArg)
	wantRefused(t, s, 1, "n", "ab", "", api.ErrCoins)
}

func TestRowsStandInTheirOrder(t *testing.T) {
	rows := someRows(100)
	all, grown := mustIdeal(t, rows), mustIdeal(t, rows[:37])
	wantTable(t, all, rows)
	for i, r := range rows[37:] {
		wantText(t, "Seal", mustSeal(t, grown, r.Kind, r.Name, r.Text, r.Blob), r.Blob)
		wantTable(t, grown, rows[:38+i])
	}
	for i, r := range rows {
		wantOpens(t, all, r.Kind, r.Name, r.Blob, r.Text)
		wantOpens(t, grown, r.Kind, r.Name, r.Blob, r.Text)
		wantShut(t, mustIdeal(t, rows[:i]), r.Kind, r.Name, r.Blob, api.ErrSealed)
	}
}

// P8.7

func TestIdealOpensNothingElse(t *testing.T) {
	rows := someRows(30)
	s := mustIdeal(t, rows)
	for i, r := range rows {
		for kind := 1; kind <= 3; kind++ {
			for _, name := range []string{"", r.Name, r.Name[:len(r.Name)/2], "x", rows[(i+1)%30].Name} {
				if kind != r.Kind || name != r.Name {
					wantShut(t, s, kind, name, r.Blob, api.ErrSealed)
				}
			}
		}
		for place := range len(r.Blob) {
			for bit := range 8 {
				wantShut(t, s, r.Kind, r.Name, turned(r.Blob, place, bit), api.ErrSealed)
			}
			wantShut(t, s, r.Kind, r.Name, r.Blob[:place], api.ErrSealed)
			wantShut(t, s, r.Kind, r.Name, r.Blob[place+1:], api.ErrSealed)
			wantShut(t, s, r.Kind, r.Name, r.Blob[:place]+"x"+r.Blob[place:], api.ErrSealed)
		}
		wantShut(t, s, r.Kind, r.Name, r.Blob+"\x00", api.ErrSealed)
		wantShut(t, s, r.Kind, r.Name, rows[(i+1)%30].Blob, api.ErrSealed)
	}
}

// aLife is sealers that are all to answer as the document's table does: one that lived from the beginning, and one that
// was made of its table a while ago.
type aLife struct {
	plain        *plainIdeal
	lived, taken *Ideal
	dice         *rand.Rand
}

func (l *aLife) bytes(n int) string {
	b := make([]byte, n)
	l.dice.Read(b)
	return string(b)
}

// blob is one that was given, or such a one changed, or one that never was.
func (l *aLife) blob(n int) string {
	if len(l.plain.rows) == 0 || l.dice.Intn(4) == 0 {
		return l.bytes(n)
	}
	b := l.plain.rows[l.dice.Intn(len(l.plain.rows))].Blob
	switch l.dice.Intn(5) {
	case 0:
		return turned(b, l.dice.Intn(len(b)), l.dice.Intn(8))
	case 1:
		return l.bytes(max(n, 16)-16) + b[len(b)-16:]
	case 2:
		return b[l.dice.Intn(len(b)):]
	}
	return b
}

func (l *aLife) step(t *testing.T) {
	kind, name, text := l.dice.Intn(4), []string{"", "n", "m", somewhat(64), somewhat(65)}[l.dice.Intn(5)], l.bytes(l.dice.Intn(9))
	coins := l.blob(len(text) + 40)
	if fresh := l.plain.fresh(coins); l.lived.Fresh(coins) != fresh || l.taken.Fresh(coins) != fresh {
		t.Fatalf("Fresh of %x: want %v", coins, fresh)
	}
	want, e := l.plain.seal(kind, name, text, coins)
	for _, s := range []*Ideal{l.lived, l.taken} {
		if got, f := s.Seal(kind, name, text, coins); got != want || f != e {
			t.Fatalf("Seal(%d, %q, %x, %x): %x, %d, want %d", kind, name, text, coins, got, f, e)
		}
	}
	blob := l.blob(40)
	if len(l.plain.rows) > 0 && l.dice.Intn(2) == 0 {
		r := l.plain.rows[l.dice.Intn(len(l.plain.rows))]
		kind, name, blob = r.Kind, r.Name, r.Blob
	}
	want, e = l.plain.open(kind, name, blob)
	for _, s := range []*Ideal{l.lived, l.taken} {
		if got, f := s.Open(kind, name, blob); got != want || f != e {
			t.Fatalf("Open(%d, %q, %x): %x, %d, want %x, %d", kind, name, blob, got, f, want, e)
		}
	}
}

func TestALongLifeOfTheIdealSealer(t *testing.T) {
	for seed := range 20 {
		l := &aLife{&plainIdeal{}, mustIdeal(t, nil), mustIdeal(t, nil), rand.New(rand.NewSource(int64(seed)))}
		for i := range 600 {
			l.step(t)
			if i%97 == 0 {
				l.taken = mustIdeal(t, l.lived.Table())
			}
		}
		wantTable(t, l.lived, l.plain.rows)
		wantTable(t, l.taken, l.plain.rows)
		tags := map[string]int{}
		for _, r := range l.lived.Table() {
			tags[Tag(r.Blob)]++
			wantOpens(t, l.lived, r.Kind, r.Name, r.Blob, r.Text)
		}
		if len(tags) != len(l.plain.rows) || len(tags) < 50 {
			t.Errorf("%d tags of %d rows", len(tags), len(l.plain.rows))
		}
	}
}

// TestWhatWasSealedIsOpened: however much was sealed meanwhile, and whatever was refused.
func TestWhatWasSealedIsOpened(t *testing.T) {
	for what, s := range both(t) {
		dice := rand.New(rand.NewSource(5))
		var sealed []api.Sealed
		for i := range 1500 {
			text := make([]byte, dice.Intn(50))
			dice.Read(text)
			random := make([]byte, s.Coins(len(text)))
			dice.Read(random)
			coins := string(random)
			if !s.Fresh(coins) {
				t.Fatalf("%s: coins of the right number are not fresh", what)
			}
			r := api.Sealed{Kind: 1 + i%3, Name: rising(i, i%65), Text: string(text)}
			r.Blob = mustSeal(t, s, r.Kind, r.Name, r.Text, coins)
			s.Seal(r.Kind, r.Name, r.Text, coins)
			s.Seal(0, r.Name, r.Text, coins)
			sealed = append(sealed, r)
		}
		for _, r := range sealed {
			wantOpens(t, s, r.Kind, r.Name, r.Blob, r.Text)
			wantShut(t, s, 1+r.Kind%3, r.Name, r.Blob, api.ErrSealed)
		}
	}
}

// TestManyRows: what a look costs does not grow with the table.
func TestManyRows(t *testing.T) {
	s := mustIdeal(t, nil)
	const many = 100000
	coins := func(i int) string { return fmt.Sprintf("%040d", i) }
	for i := range many {
		mustSeal(t, s, 1+i%3, "n", "", coins(i))
	}
	s = mustIdeal(t, s.Table())
	for i := range many {
		wantOpens(t, s, 1+i%3, "n", coins(i), "")
		if s.Fresh(coins(i)) || !s.Fresh(coins(many+i)) {
			t.Fatalf("Fresh of row %d", i)
		}
	}
}

func TestAnswersHangOnArgumentsAlone(t *testing.T) {
	a, b := mustReal(t, zeros), mustReal(t, zeros)
	mustSeal(t, a, 2, "other", "more", somewhat(24))
	a.Open(1, "n", somewhat(50))
	a.Seal(9, "n", "ab", ones)
	wantText(t, "Seal", mustSeal(t, a, 1, "n", "ab", ones), mustSeal(t, b, 1, "n", "ab", ones))
	wantText(t, "Seal again", mustSeal(t, a, 1, "n", "ab", ones), mustSeal(t, b, 1, "n", "ab", ones))
}
