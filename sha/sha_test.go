package sha

import (
	"crypto/sha256"
	"encoding"
	"encoding/hex"
	"strings"
	"testing"

	"casket/api"
)

// somewhat is a text of that many bytes, of all values, in which no block is like the one before it.
func somewhat(n int) string {
	b := make([]byte, n)
	x := uint32(2463534242)
	for i := range b {
		x ^= x << 13
		x ^= x >> 17
		x ^= x << 5
		b[i] = byte(x >> 11)
	}
	return string(b)
}

// theirSum is the library's SHA-256, which the program itself does not use.
func theirSum(text string) string {
	s := sha256.Sum256([]byte(text))
	return string(s[:])
}

// theirState is the state of a text as the library has it, in the document's form.
func theirState(t *testing.T, text string) string {
	t.Helper()
	h := sha256.New()
	h.Write([]byte(text))
	b, err := h.(encoding.BinaryMarshaler).MarshalBinary()
	if err != nil {
		t.Fatal(err)
	}
	return string(b[4:36]) + string(b[100:108]) + text[len(text)-len(text)%64:]
}

// lengths are all from 0 to some blocks, and those about greater multiples.
func lengths() []int {
	var out []int
	for n := range 330 {
		out = append(out, n)
	}
	for _, m := range []int{8 * 64, 16 * 64, 4096, 65536} {
		for _, d := range []int{-9, -8, -1, 0, 1, 55, 56} {
			out = append(out, m+d)
		}
	}
	return out
}

func mustWrite(t *testing.T, h *Hasher, data string) {
	t.Helper()
	if e := h.Write(data); e != api.OK {
		t.Fatalf("Write of %d bytes behind %d: %d", len(data), h.Count(), e)
	}
}

func mustRestore(t *testing.T, state string) *Hasher {
	t.Helper()
	h, e := Restore(state)
	if e != api.OK || h == nil {
		t.Fatalf("Restore(%x): %v, %d", state, h != nil, e)
	}
	return h
}

// wantTaken: the Hasher stands just as one that took this text.
func wantTaken(t *testing.T, h *Hasher, text string) {
	t.Helper()
	if h.Count() != len(text) {
		t.Fatalf("Count is %d, want %d", h.Count(), len(text))
	}
	if got, want := h.Sum(), theirSum(text); got != want {
		t.Fatalf("behind %d bytes: Sum is %x, want %x", len(text), got, want)
	}
	if got, want := h.State(), theirState(t, text); got != want {
		t.Fatalf("behind %d bytes: State is %x, want %x", len(text), got, want)
	}
}

// P2.1

func TestNoHasherAnswersNothing(t *testing.T) {
	for name, h := range map[string]*Hasher{"nil": nil, "a zero struct": {}} {
		for range 2 {
			if e := h.Write("x"); e != api.ErrNil {
				t.Errorf("%s: Write: %d", name, e)
			}
			if e := h.Write(""); e != api.ErrNil {
				t.Errorf("%s: Write of nothing: %d", name, e)
			}
			if h.Sum() != "" || h.Count() != 0 || h.State() != "" {
				t.Errorf("%s: Sum %x, Count %d, State %x", name, h.Sum(), h.Count(), h.State())
			}
		}
	}
}

func TestHashersNeverTouchOneAnother(t *testing.T) {
	text := somewhat(300)
	a, b := NewHasher(), NewHasher()
	mustWrite(t, a, text[:100])
	wantTaken(t, b, "")
	mustWrite(t, b, text[200:])
	c := mustRestore(t, a.State())
	mustWrite(t, a, text[100:])
	wantTaken(t, a, text)
	wantTaken(t, b, text[200:])
	wantTaken(t, c, text[:100])
	mustWrite(t, c, text[:30])
	wantTaken(t, c, text[:100]+text[:30])
	wantTaken(t, a, text)
	copied := *a
	mustWrite(t, &copied, "more")
	wantTaken(t, a, text)
	wantTaken(t, &copied, text+"more")
	if NewHasher().Sum() != theirSum("") {
		t.Error("a new Hasher has taken something")
	}
}

func TestPartsAreLeftAsTheyWere(t *testing.T) {
	room := []string{"a", somewhat(70), "", "c", "spare", "room"}
	want := append([]string(nil), room...)
	if Sum(room[:4]...) != theirSum("a"+somewhat(70)+"c") {
		t.Error("Sum of a piece of a list")
	}
	for i := range room {
		if room[i] != want[i] {
			t.Errorf("part %d is %q now", i, room[i])
		}
	}
}

// P2.2

func TestSumOfTheExamples(t *testing.T) {
	for text, want := range map[string]string{
		"":    "e3b0c44298fc1c149afbf4c8996fb92427ae41e4649b934ca495991b7852b855",
		"abc": "ba7816bf8f01cfea414140de5dae2223b00361a396177a9cb410ff61f20015ad",
		"abcdbcdecdefdefgefghfghighijhijkijkljklmklmnlmnomnopnopq": "248d6a61d20638b8e5c026930c3e6039a33ce45964ff2167f6ecedd419db06c1",
	} {
		if got := hex.EncodeToString([]byte(Sum(text))); got != want {
			t.Errorf("Sum(%q) is %s", text, got)
		}
	}
	if Sum("a", "", "bc") != Sum("abc") {
		t.Error("Sum of a, nothing and bc is not that of abc")
	}
}

func TestSumOfNoPart(t *testing.T) {
	want := theirSum("")
	if Sum() != want || Sum([]string{}...) != want || Sum("") != want || Sum("", "", "") != want {
		t.Errorf("of no part %x, of an empty list %x, of an empty part %x, of three %x, want %x", Sum(), Sum([]string{}...), Sum(""), Sum("", "", ""), want)
	}
}

func TestSumOfEveryLength(t *testing.T) {
	for _, n := range lengths() {
		for _, text := range []string{somewhat(n), strings.Repeat("\x00", n), strings.Repeat("\xff", n)} {
			if got, want := Sum(text), theirSum(text); got != want {
				t.Fatalf("of %d bytes: %x, want %x", n, got, want)
			}
		}
	}
}

func TestSumOfManyParts(t *testing.T) {
	text := somewhat(1000)
	want := theirSum(text)
	for size := 1; size <= 200; size++ {
		var parts []string
		for at := 0; at < len(text); at += size {
			parts = append(parts, text[at:min(at+size, len(text))], "")
		}
		if got := Sum(parts...); got != want {
			t.Fatalf("in parts of %d bytes: %x, want %x", size, got, want)
		}
	}
	for cut := range text {
		if Sum(text[:cut], text[cut:]) != want {
			t.Fatalf("cut at %d: another sum", cut)
		}
	}
	if Sum("a", "b") == Sum("b", "a") {
		t.Error("the order of the parts is lost")
	}
}

// P2.3

func TestHexOfEveryByte(t *testing.T) {
	for i := range 256 {
		b := string([]byte{byte(i)})
		if got, want := Hex(b), hex.EncodeToString([]byte(b)); got != want {
			t.Errorf("Hex(%q) is %q, want %q", b, got, want)
		}
	}
	for n := range 70 {
		text := somewhat(n)
		if got := Hex(text); got != hex.EncodeToString([]byte(text)) {
			t.Errorf("Hex of %d bytes is %q", n, got)
		}
		wantUnhex(t, Hex(text), text, api.OK)
	}
	if Hex("") != "" || Hex("\x00\x7f\xff") != "007fff" {
		t.Errorf("Hex of nothing is %q, of three bytes %q", Hex(""), Hex("\x00\x7f\xff"))
	}
}

func wantUnhex(t *testing.T, text, want string, wantE api.Errno) {
	t.Helper()
	if got, e := Unhex(text); got != want || e != wantE {
		t.Errorf("Unhex(%q) is %q, %d, want %q, %d", text, got, e, want, wantE)
	}
}

func TestUnhexOfEveryPairOfBytes(t *testing.T) {
	value := func(c int) int { return strings.IndexByte("0123456789abcdef", byte(c)) }
	for i := range 256 {
		for j := range 256 {
			pair := string([]byte{byte(i), byte(j)})
			if high, low := value(i), value(j); high < 0 || low < 0 {
				wantUnhex(t, pair, "", api.ErrHex)
			} else {
				wantUnhex(t, pair, string([]byte{byte(16*high + low)}), api.OK)
			}
		}
	}
}

func TestUnhexOfWrongTexts(t *testing.T) {
	wantUnhex(t, "", "", api.OK)
	wantUnhex(t, "007fff", "\x00\x7f\xff", api.OK)
	for _, text := range []string{
		"0", "a", "007", "61626", "007FFF", "00 7", "0x00", "61g1", "616g", "g161", "00ff\n", "00\n0", "00\xc3\xa9", "00é", "0é", "+1", "-1", "1_",
	} {
		wantUnhex(t, text, "", api.ErrHex)
	}
	for n := 1; n < 40; n += 2 {
		wantUnhex(t, strings.Repeat("0", n), "", api.ErrHex)
	}
}

// P2.4

func TestHasherTakesNothingAtFirst(t *testing.T) {
	h := NewHasher()
	wantTaken(t, h, "")
	mustWrite(t, h, "")
	wantTaken(t, h, "")
}

func TestHasherOfEveryLengthAtOnce(t *testing.T) {
	for _, n := range lengths() {
		text := somewhat(n)
		h := NewHasher()
		mustWrite(t, h, text)
		wantTaken(t, h, text)
		wantTaken(t, h, text) // asking has changed nothing
		mustWrite(t, h, "")
		wantTaken(t, h, text)
	}
}

func TestHasherBitByBit(t *testing.T) {
	text := somewhat(1000)
	for _, size := range []int{1, 2, 3, 7, 31, 55, 56, 57, 63, 64, 65, 100, 127, 128, 129, 500} {
		asked, silent := NewHasher(), NewHasher()
		for at := 0; at < len(text); at += size {
			end := min(at+size, len(text))
			mustWrite(t, asked, text[at:end])
			mustWrite(t, silent, text[at:end])
			wantTaken(t, asked, text[:end])
		}
		wantTaken(t, silent, text)
	}
}

func TestHasherInTwoBits(t *testing.T) {
	text := somewhat(200)
	for cut := range text {
		for end := cut; end <= len(text); end += 13 {
			h := NewHasher()
			mustWrite(t, h, text[:cut])
			h.Sum()
			h.State()
			mustWrite(t, h, text[cut:end])
			wantTaken(t, h, text[:end])
		}
	}
}

func TestHasherKeepsNoMoreThanItsState(t *testing.T) {
	text := somewhat(200)
	h := NewHasher()
	mustWrite(t, h, text)
	for i, b := range h.rest {
		if i >= 200%64 && b != 0 {
			t.Fatalf("byte %d of the rest is kept though it is summed already", i)
		}
	}
}

// nearlyFull is a running sum with room for that many bytes.
func nearlyFull(t *testing.T, room int) *Hasher {
	t.Helper()
	count := uint64(1<<40 - room)
	return mustRestore(t, somewhat(32)+countText(count)+somewhat(int(count%64)))
}

func countText(count uint64) string {
	var b [8]byte
	for i := range b {
		b[7-i] = byte(count >> (8 * i))
	}
	return string(b[:])
}

func TestWriteUpToTheLimit(t *testing.T) {
	for _, room := range []int{0, 1, 2, 63, 64, 65, 130} {
		h := nearlyFull(t, room)
		state, sum := h.State(), h.Sum()
		for _, more := range []int{1, 2, 64, 1000} {
			if e := h.Write(somewhat(room + more)); e != api.ErrBig {
				t.Fatalf("Write of %d bytes more than have room: %d", more, e)
			}
			if h.State() != state || h.Sum() != sum || h.Count() != 1<<40-room {
				t.Fatalf("Write of %d bytes more than have room has taken something", more)
			}
		}
		mustWrite(t, h, "")
		mustWrite(t, h, somewhat(room))
		if h.Count() != 1<<40 {
			t.Fatalf("Count is %d", h.Count())
		}
		if e := h.Write("x"); e != api.ErrBig {
			t.Fatalf("Write to a full sum: %d", e)
		}
		mustWrite(t, h, "")
		if h.Count() != 1<<40 || len(h.State()) != 40 || len(h.Sum()) != 32 {
			t.Fatalf("a full sum: Count %d, a state of %d bytes, a sum of %d", h.Count(), len(h.State()), len(h.Sum()))
		}
	}
}

// theirRestored is the library's running sum that goes on from a state.
func theirRestored(t *testing.T, state, more string) string {
	t.Helper()
	h := sha256.New()
	form := "sha\x03" + state[:32] + state[40:] + strings.Repeat("\x00", 64-len(state[40:])) + state[32:40]
	if err := h.(encoding.BinaryUnmarshaler).UnmarshalBinary([]byte(form)); err != nil {
		t.Fatal(err)
	}
	h.Write([]byte(more))
	return string(h.Sum(nil))
}

func TestSumOfGreatCounts(t *testing.T) {
	for _, room := range []int{0, 1, 8, 9, 63, 64, 100, 1 << 39, 1<<40 - 64, 1<<40 - 1<<32} {
		h := nearlyFull(t, room)
		state := h.State()
		if got, want := h.Sum(), theirRestored(t, state, ""); got != want {
			t.Errorf("of %d bytes: %x, want %x", h.Count(), got, want)
		}
		more := somewhat(min(room, 150))
		mustWrite(t, h, more)
		if got, want := h.Sum(), theirRestored(t, state, more); got != want {
			t.Errorf("of %d bytes: %x, want %x", h.Count(), got, want)
		}
	}
}

// P2.5

func TestStateOfTheExample(t *testing.T) {
	h := NewHasher()
	mustWrite(t, h, "ab")
	h.Sum()
	mustWrite(t, h, "c")
	want := "6a09e667bb67ae853c6ef372a54ff53a510e527f9b05688c1f83d9ab5be0cd19" + "0000000000000003" + "616263"
	if got := Hex(h.State()); got != want {
		t.Fatalf("State is %s", got)
	}
	r := mustRestore(t, h.State())
	mustWrite(t, r, "")
	wantTaken(t, r, "abc")
}

func TestRestoreGoesOn(t *testing.T) {
	for _, n := range lengths() {
		text := somewhat(n)
		h := NewHasher()
		mustWrite(t, h, text)
		state := h.State()
		for _, more := range []int{0, 1, 63, 64, 65, 200} {
			r := mustRestore(t, state)
			wantTaken(t, r, text)
			mustWrite(t, r, somewhat(more))
			wantTaken(t, r, text+somewhat(more))
		}
		wantTaken(t, h, text)
	}
}

func TestRestoreTakesAnyWordsBehindABlock(t *testing.T) {
	for _, count := range []uint64{64, 65, 127, 128, 1000, 1<<32 - 1, 1 << 32, 1<<40 - 64, 1<<40 - 1, 1 << 40} {
		for _, words := range []string{somewhat(32), strings.Repeat("\x00", 32), strings.Repeat("\xff", 32), NewHasher().State()[:32]} {
			state := words + countText(count) + somewhat(int(count%64))
			h := mustRestore(t, state)
			if h.Count() != int(count) || h.State() != state || h.Sum() != theirRestored(t, state, "") {
				t.Errorf("a count of %d: Count %d, State %x, Sum %x", count, h.Count(), h.State(), h.Sum())
			}
		}
	}
}

func wantNoState(t *testing.T, why, state string) {
	t.Helper()
	if h, e := Restore(state); h != nil || e != api.ErrState {
		t.Errorf("%s: Restore(%x): %v, %d", why, state, h != nil, e)
	}
}

func TestRestoreRefusesWrongLengths(t *testing.T) {
	first := NewHasher().State()
	for n := range 40 {
		wantNoState(t, "too few bytes", first[:n])
		wantNoState(t, "too few bytes", somewhat(n))
	}
	for _, count := range []uint64{0, 1, 3, 62, 63, 64, 65, 127, 128, 1<<40 - 1, 1 << 40} {
		whole := first[:32] + countText(count) + somewhat(int(count%64))
		mustRestore(t, whole)
		wantNoState(t, "one byte fewer", whole[:len(whole)-1])
		wantNoState(t, "one byte more", whole+"x")
		wantNoState(t, "a block more", whole+somewhat(64))
		if count%64 != 0 {
			wantNoState(t, "no rest", whole[:40])
		}
	}
}

func TestRestoreRefusesGreatCounts(t *testing.T) {
	first := NewHasher().State()[:32]
	for _, count := range []uint64{1<<40 + 1, 1<<40 + 63, 1<<40 + 64, 1 << 41, 1 << 62, 1<<63 - 64, 1<<63 - 1, 1 << 63, 1<<63 + 3, 1<<64 - 64, 1<<64 - 1} {
		wantNoState(t, "a count above the limit", first+countText(count)+somewhat(int(count%64)))
		wantNoState(t, "a count above the limit, without a rest", first+countText(count))
	}
}

func TestRestoreRefusesOtherWordsAheadOfTheFirstBlock(t *testing.T) {
	for _, count := range []uint64{0, 1, 3, 62, 63} {
		rest := countText(count) + somewhat(int(count%64))
		first := NewHasher().State()[:32]
		mustRestore(t, first+rest)
		for i := range first {
			other := []byte(first)
			other[i] ^= 1 << (i % 8)
			wantNoState(t, "another word", string(other)+rest)
		}
		wantNoState(t, "other words", somewhat(32)+rest)
		wantNoState(t, "zeros", strings.Repeat("\x00", 32)+rest)
	}
}
