package poly

import (
	"encoding/hex"
	"math/big"
	"slices"
	"strings"
	"sync"
	"testing"

	"casket/api"
)

// somewhat is a text of that many bytes, of all values, in which no block is like the one before it.
func somewhat(n int) string {
	b := make([]byte, n)
	x := uint32(88172645)
	for i := range b {
		x ^= x << 13
		x ^= x >> 17
		x ^= x << 5
		b[i] = byte(x >> 11)
	}
	return string(b)
}

func zeros(n int) string { return strings.Repeat("\x00", n) }

func full(n int) string { return strings.Repeat("\xff", n) }

// rising is the bytes 0, 1, 2 and so on.
func rising(n int) string {
	b := make([]byte, n)
	for i := range b {
		b[i] = byte(i)
	}
	return string(b)
}

// raw is the bytes of digits, between which spaces may stand.
func raw(t *testing.T, digits string) string {
	t.Helper()
	b, err := hex.DecodeString(strings.ReplaceAll(digits, " ", ""))
	if err != nil {
		t.Fatal(err)
	}
	return string(b)
}

func wantText(t *testing.T, what, got, want string) {
	t.Helper()
	if got != want {
		t.Errorf("%s: %x, want %x", what, got, want)
	}
}

func mustTag(t *testing.T, key, text string) string {
	t.Helper()
	s, e := Tag(key, text)
	if e != api.OK {
		t.Fatalf("Tag of %d bytes under %x: %d", len(text), key, e)
	}
	return s
}

func mustNew(t *testing.T, key string) *Mac {
	t.Helper()
	m, e := New(key)
	if m == nil || e != api.OK {
		t.Fatalf("New of %x: %d", key, e)
	}
	return m
}

func mustWrite(t *testing.T, m *Mac, s string) {
	t.Helper()
	if e := m.Write(s); e != api.OK {
		t.Fatalf("Write of %d bytes: %d", len(s), e)
	}
}

// What follows does the document's words once more in the library's great numbers, against which the program is held.

func two(power uint) *big.Int { return new(big.Int).Lsh(big.NewInt(1), power) }

func plainP() *big.Int { return new(big.Int).Sub(two(130), big.NewInt(5)) }

func plus(x *big.Int, d int64) *big.Int { return new(big.Int).Add(x, big.NewInt(d)) }

// plainNumber is the number of some bytes, the lowest first.
func plainNumber(s string) *big.Int {
	b := []byte(s)
	slices.Reverse(b)
	return new(big.Int).SetBytes(b)
}

// sixteen is a number below 2^128 as bytes, the lowest first.
func sixteen(x *big.Int) string {
	b := x.FillBytes(make([]byte, 16))
	slices.Reverse(b)
	return string(b)
}

func plainR(key string) *big.Int {
	r := []byte(key[:16])
	for _, i := range []int{3, 7, 11, 15} {
		r[i] %= 16
	}
	for _, i := range []int{4, 8, 12} {
		r[i] -= r[i] % 4
	}
	return plainNumber(string(r))
}

func plainTag(key, text string) string {
	a, r := new(big.Int), plainR(key)
	for len(text) > 0 {
		n := min(16, len(text))
		a.Add(a, plainNumber(text[:n]+"\x01"))
		a.Mul(a, r).Mod(a, plainP())
		text = text[n:]
	}
	a.Add(a, plainNumber(key[16:]))
	return sixteen(a.Mod(a, two(128)))
}

// summingTo is a text of whole blocks whose numbers, with the 1 behind each, make sum, which is 2^128 or more.
func summingTo(sum *big.Int) string {
	blocks, left := new(big.Int).DivMod(sum, two(128), new(big.Int))
	var text strings.Builder
	for range blocks.Int64() - 1 {
		part := new(big.Int).Div(left, big.NewInt(3))
		text.WriteString(sixteen(part))
		left.Sub(left, part)
	}
	return text.String() + sixteen(left)
}

// edgeRs are 0, 1, 2, as great as can be, some bytes alone, and each bit alone.
func edgeRs() []string {
	out := []string{
		zeros(16), "\x01" + zeros(15), "\x02" + zeros(15), full(16),
		full(3) + "\x03" + zeros(12), zeros(13) + full(3), zeros(8) + full(8), full(8) + zeros(8),
	}
	for bit := range 128 {
		b := make([]byte, 16)
		b[bit/8] = 1 << (bit % 8)
		out = append(out, string(b))
	}
	return out
}

func edgeSs() []string {
	return []string{zeros(16), "\x01" + zeros(15), zeros(15) + "\x80", full(15) + "\x7f", "\xfe" + full(15), full(16), rising(16)}
}

func someKeys() []string {
	return []string{rising(32), somewhat(32), somewhat(64)[32:], full(32), full(16) + zeros(16), zeros(16) + full(16), strings.Repeat("\x5a", 32)}
}

// textLengths are about the ends of blocks, with those between.
func textLengths() []int {
	return []int{0, 1, 2, 3, 7, 8, 13, 14, 15, 16, 17, 18, 30, 31, 32, 33, 34, 47, 48, 49, 63, 64, 65, 100, 255, 256, 257, 1000, 4096}
}

// P5.1

func TestTagExamples(t *testing.T) {
	one, two := "\x01"+zeros(31), "\x02"+zeros(31)
	for _, c := range []struct{ key, text, want string }{
		{raw(t, "85d6be78 57556d33 7f4452fe 42d506a8 0103808a fb0db2fd 4abff6af 4149f51b"), "Cryptographic Forum Research Group", raw(t, "a8061dc1 305136c6 c22b8baf 0c0127a9")},
		{zeros(32), "", zeros(16)}, {zeros(32), "a", zeros(16)}, {zeros(32), somewhat(100), zeros(16)},
		{zeros(16) + rising(16), "", rising(16)}, {zeros(16) + rising(16), "a", rising(16)}, {zeros(16) + rising(16), somewhat(100), rising(16)},
		{two, full(16), "\x03" + zeros(15)},
		{"\x02" + zeros(15) + full(16), "\x02" + zeros(15), "\x03" + zeros(15)},
		{one, full(16) + "\xf0" + full(15) + "\x11" + zeros(15), "\x05" + zeros(15)},
		{one, full(16) + "\xfb" + strings.Repeat("\xfe", 15) + strings.Repeat("\x01", 16), zeros(16)},
		{two, "\xfd" + full(15), "\xfa" + full(15)},
		{one, "", zeros(16)}, {one, "a", "a\x01" + zeros(14)}, {one, zeros(16), zeros(16)}, {one, full(15), full(15) + "\x01"},
	} {
		wantText(t, "Tag", mustTag(t, c.key, c.text), c.want)
	}
}

// TestTagsThatOthersMake: the tags were made by another program.
func TestTagsThatOthersMake(t *testing.T) {
	var key strings.Builder
	for i := range 32 {
		key.WriteByte(byte(i*37 + 11))
	}
	for _, c := range []struct {
		n          int
		some, full string
	}{
		{0, "5b80a5caef14395e83a8cdf2173c6186", "ffffffffffffffffffffffffffffffff"},
		{1, "6bbb2a2a9675e756c230a372deec5f9e", "23feffef23f8ffef23f8ffef23f8ffef"},
		{15, "b7313e4ebbf38f48389f31cfb549c3f6", "fbff27e6030028e6030028e6030028ee"},
		{16, "8c3ae4ff87d63ae66f079d95cf6ff4f7", "fbffff17faffff17faffff17faffff17"},
		{17, "84892e7ec23994058128a6b9b2c543e9", "7cfe7ff768f81f2763f8bf565df85f86"},
		{33, "4dd6ffa4f65aa7bd9f1d5a7ffcb20045", "86fa6a437bf4ec24a274504dc37495bc"},
		{64, "d9282ad0433552104e98e6c33d431163", "900fe32bc15fa8d7bca8efe4c7e37eb1"},
		{255, "2f19da2e5a3d4f3f4c906ea20ac00cf2", "c80cb43844f387946e5aa6085bdf67da"},
		{1000, "951ead6004380186cc64d480595f8803", "de9406b10e7023bcd692ff687f4cbc7f"},
	} {
		var text strings.Builder
		for i := range c.n {
			text.WriteByte(byte(i*i + 3*i + c.n))
		}
		wantText(t, "some bytes", mustTag(t, key.String(), text.String()), raw(t, c.some))
		wantText(t, "bytes 255", mustTag(t, full(32), full(c.n)), raw(t, c.full))
	}
}

func TestTagOfManyLengths(t *testing.T) {
	for _, key := range someKeys() {
		for _, n := range textLengths() {
			for _, text := range []string{somewhat(n), zeros(n), full(n), strings.Repeat("\x01", n)} {
				wantText(t, "Tag", mustTag(t, key, text), plainTag(key, text))
			}
		}
	}
}

func TestTagOfEdgesOfKeys(t *testing.T) {
	for _, r := range edgeRs() {
		for _, s := range edgeSs() {
			for _, n := range []int{0, 1, 15, 16, 17, 32, 33, 160} {
				for _, text := range []string{full(n), zeros(n), somewhat(n)} {
					wantText(t, "Tag", mustTag(t, r+s, text), plainTag(r+s, text))
				}
			}
		}
	}
}

// TestNumbersAboutPAndTwoTo128: under an r of 1 the number a is the sum of the blocks, under one of 2 it is twice that.
func TestNumbersAboutPAndTwoTo128(t *testing.T) {
	twice := new(big.Int).Mul(plainP(), big.NewInt(2))
	for _, middle := range []*big.Int{two(128), two(129), plainP(), new(big.Int).Add(plainP(), two(128)), twice, new(big.Int).Add(twice, two(128))} {
		for d := int64(-7); d <= 7; d++ {
			sum := plus(middle, d)
			if sum.Cmp(two(128)) < 0 {
				continue
			}
			text := summingTo(sum)
			left := new(big.Int).Mod(sum, plainP())
			for _, s := range edgeSs() {
				want := new(big.Int).Add(left, plainNumber(s))
				wantText(t, "an r of 1", mustTag(t, "\x01"+zeros(15)+s, text), sixteen(want.Mod(want, two(128))))
				wantText(t, "an r of 2", mustTag(t, "\x02"+zeros(15)+s, text), plainTag("\x02"+zeros(15)+s, text))
			}
			// s makes of it the last number below 2^128, and the first past it.
			rest := new(big.Int).Mod(new(big.Int).Sub(two(128), plus(left, 1)), two(128))
			wantText(t, "all bits", mustTag(t, "\x01"+zeros(15)+sixteen(rest), text), full(16))
			rest.Mod(plus(rest, 1), two(128))
			wantText(t, "no bits", mustTag(t, "\x01"+zeros(15)+sixteen(rest), text), zeros(16))
		}
	}
}

// isTakenAsZero is the document's list, by byte and bit.
func isTakenAsZero(place, bit int) bool {
	switch place {
	case 3, 7, 11, 15:
		return bit >= 4
	case 4, 8, 12:
		return bit < 2
	}
	return false
}

func TestBitsThatAreTakenAsZero(t *testing.T) {
	texts := []string{"a", full(16), somewhat(30), somewhat(200)}
	for _, first := range []string{zeros(32), full(32), rising(32), strings.Repeat("\x5a", 32)} {
		for place := range 32 {
			for bit := range 8 {
				key := []byte(first)
				key[place] ^= 1 << bit
				for _, text := range texts {
					same := mustTag(t, first, text) == mustTag(t, string(key), text)
					if same != isTakenAsZero(place, bit) {
						t.Errorf("the bit %d of byte %d of %x turned: the same tag is %v", bit, place, first, same)
					}
				}
			}
		}
	}
}

func TestLongText(t *testing.T) {
	text := strings.Repeat(somewhat(997), 300)
	for _, key := range []string{somewhat(32), full(32)} {
		wantText(t, "Tag", mustTag(t, key, text), plainTag(key, text))
		wantText(t, "Tag of bytes 255", mustTag(t, key, full(len(text))), plainTag(key, full(len(text))))
	}
}

func TestWrongKeys(t *testing.T) {
	for _, n := range []int{0, 1, 15, 16, 17, 31, 33, 48, 64, 1000} {
		for _, text := range []string{"", "a", full(16), somewhat(100)} {
			if s, e := Tag(somewhat(n), text); s != "" || e != api.ErrKey {
				t.Errorf("Tag under %d bytes: %x, %d", n, s, e)
			}
		}
		if m, e := New(somewhat(n)); m != nil || e != api.ErrKey {
			t.Errorf("New of %d bytes: %v, %d", n, m, e)
		}
	}
}

// P5.2

func TestMacExample(t *testing.T) {
	for _, key := range someKeys() {
		m := mustNew(t, key)
		wantText(t, "nothing", m.Sum(), mustTag(t, key, ""))
		mustWrite(t, m, "a")
		wantText(t, "a", m.Sum(), mustTag(t, key, "a"))
		mustWrite(t, m, "b")
		wantText(t, "ab", m.Sum(), mustTag(t, key, "ab"))
	}
}

func TestMacInPiecesOfOneLength(t *testing.T) {
	text := somewhat(170)
	for _, key := range someKeys() {
		for n := 1; n <= 70; n++ {
			m := mustNew(t, key)
			for at := 0; at < len(text); at += n {
				end := min(at+n, len(text))
				mustWrite(t, m, text[at:end])
				wantText(t, "so far", m.Sum(), plainTag(key, text[:end]))
				wantText(t, "asked again", m.Sum(), plainTag(key, text[:end]))
			}
		}
	}
}

func TestMacInTwoAndThreePieces(t *testing.T) {
	text := full(16) + somewhat(34)
	for _, key := range []string{somewhat(32), full(32)} {
		want := plainTag(key, text)
		for i := range len(text) + 1 {
			for j := i; j <= len(text); j++ {
				m := mustNew(t, key)
				mustWrite(t, m, text[:i])
				mustWrite(t, m, text[i:j])
				mustWrite(t, m, "")
				mustWrite(t, m, text[j:])
				wantText(t, "cut", m.Sum(), want)
			}
		}
	}
}

func TestMacOfNothingWritten(t *testing.T) {
	m := mustNew(t, somewhat(32))
	for range 3 {
		mustWrite(t, m, "")
		wantText(t, "nothing", m.Sum(), somewhat(32)[16:])
	}
}

func TestNoMacAnswersNothing(t *testing.T) {
	for _, m := range []*Mac{nil, {}, new(Mac)} {
		for _, s := range []string{"", "a", full(16), somewhat(100)} {
			if e := m.Write(s); e != api.ErrNil {
				t.Errorf("Write: %d", e)
			}
			wantText(t, "Sum", m.Sum(), "")
		}
		if m != nil && *m != (Mac{}) {
			t.Error("a Mac that no call made took something")
		}
	}
}

func TestMacsNeverTouchOneAnother(t *testing.T) {
	text := somewhat(100)
	one, other, third := mustNew(t, rising(32)), mustNew(t, rising(32)), mustNew(t, somewhat(32))
	for i := range len(text) {
		mustWrite(t, one, text[i:i+1])
		if i%3 == 0 {
			mustWrite(t, third, text[:i])
			third.Sum()
		}
		wantText(t, "the one that is written to", one.Sum(), plainTag(rising(32), text[:i+1]))
		wantText(t, "the one that is not", other.Sum(), plainTag(rising(32), ""))
	}
	again := mustNew(t, rising(32))
	wantText(t, "one made behind them", again.Sum(), plainTag(rising(32), ""))
}

// TestSumChangesNothing looks at the Mac itself, too.
func TestSumChangesNothing(t *testing.T) {
	for n := range 50 {
		m := mustNew(t, somewhat(32))
		mustWrite(t, m, somewhat(n))
		was := *m
		m.Sum()
		if *m != was {
			t.Errorf("Sum behind %d bytes left another Mac", n)
		}
	}
}

// TestWhatIsKeptIsWhatIsNeeded: bytes of whole blocks are in the number a, and nowhere else.
func TestWhatIsKeptIsWhatIsNeeded(t *testing.T) {
	for n := range 50 {
		m := mustNew(t, somewhat(32))
		mustWrite(t, m, full(n))
		var want block
		copy(want[:], full(n%16))
		if m.rest != want || m.filled != n%16 {
			t.Errorf("behind %d bytes these are kept: %x", n, m.rest)
		}
		for _, limb := range append(m.a[:], m.r[:]...) {
			if limb > limbMask {
				t.Errorf("behind %d bytes a limb is %x", n, limb)
			}
		}
	}
}

// plainLimbs is the number that limbs make.
func plainLimbs(n number) *big.Int {
	sum := new(big.Int)
	for i, limb := range n {
		sum.Add(sum, new(big.Int).Lsh(new(big.Int).SetUint64(limb), uint(26*i)))
	}
	return sum
}

// TestProductsOfGreatLimbs has limbs as great as they come: those of two sums at rest, and those of one.
func TestProductsOfGreatLimbs(t *testing.T) {
	sizes := []uint64{0, 1, 5, 1<<26 - 6, 1<<26 - 1, 1 << 26, 1<<27 - 2}
	for _, x := range sizes {
		for _, y := range sizes {
			for _, z := range sizes[:5] {
				one, other := number{x, y, x, y, y}, number{z, 1<<26 - 1, z, z, 1<<26 - 1}
				got := one.times(other)
				want := new(big.Int).Mul(plainLimbs(one), plainLimbs(other))
				if want.Mod(want, plainP()).Cmp(plainLimbs(got.least())) != 0 {
					t.Errorf("%x times %x: %x", one, other, got)
				}
				if slices.Max(got[:]) > limbMask {
					t.Errorf("%x times %x is not at rest: %x", one, other, got)
				}
			}
		}
	}
}

// TestFoldedThreeTimes: what goes past the limbs comes in below, goes past them once more, and fills the first limb.
func TestFoldedThreeTimes(t *testing.T) {
	for d := range uint64(12) {
		n := number{limbMask - d, limbMask, limbMask, limbMask, (1<<limbBits+1)/5<<limbBits | limbMask}
		got := n.folded()
		want := new(big.Int).Mod(plainLimbs(n), plainP())
		if plainLimbs(got).Cmp(want) != 0 || slices.Max(got[:]) > limbMask {
			t.Errorf("%x folded: %x", n, got)
		}
	}
}

func TestLeastAboutP(t *testing.T) {
	for d := range uint64(12) {
		for _, n := range []number{{limbMask - d, limbMask, limbMask, limbMask, limbMask}, {d}} {
			got := n.least()
			want := new(big.Int).Mod(plainLimbs(n), plainP())
			if plainLimbs(got).Cmp(want) != 0 || slices.Max(got[:]) > limbMask {
				t.Errorf("%x modulo p: %x", n, got)
			}
		}
	}
}

// P5.3

func TestEqualExamples(t *testing.T) {
	for _, c := range []struct {
		a, b string
		same bool
	}{
		{"", "", true}, {"ab", "ab", true}, {"ab", "aB", false}, {"ab", "a", false}, {"", "\x00", false},
		{"a", "aa", false}, {"ab", "ba", false}, {"\x00", "\x00\x00", false}, {full(16), full(16), true}, {full(16), full(17), false},
	} {
		if Equal(c.a, c.b) != c.same || Equal(c.b, c.a) != c.same {
			t.Errorf("Equal of %q and %q is not %v", c.a, c.b, c.same)
		}
	}
}

func TestEqualOfOneByteChanged(t *testing.T) {
	for _, n := range []int{1, 2, 15, 16, 17, 33, 300} {
		text := somewhat(n)
		if !Equal(text, string([]byte(text))) {
			t.Errorf("Equal of two texts of %d bytes that are the same: false", n)
		}
		for place := range n {
			for bit := range 8 {
				b := []byte(text)
				b[place] ^= 1 << bit
				if Equal(text, string(b)) || Equal(string(b), text) {
					t.Errorf("Equal with the bit %d of byte %d of %d turned: true", bit, place, n)
				}
			}
		}
	}
}

// TestEqualOfTwoChanges: what differs at one place is not made up for at another.
func TestEqualOfTwoChanges(t *testing.T) {
	text := somewhat(16)
	for i := range text {
		for j := range i {
			for _, turned := range []byte{1, 128, 255} {
				b := []byte(text)
				b[i] ^= turned
				b[j] ^= turned
				if Equal(text, string(b)) {
					t.Errorf("Equal with the bytes %d and %d changed: true", i, j)
				}
			}
		}
	}
}

func TestEqualOfLengths(t *testing.T) {
	for i := range 40 {
		for j := range 40 {
			for _, text := range []string{zeros(40), full(40), somewhat(40)} {
				if Equal(text[:i], text[:j]) != (i == j) {
					t.Errorf("Equal of %d and %d bytes: %v", i, j, i != j)
				}
			}
		}
	}
}

// P5.4

// TestAnswersHangOnArgumentsAlone asks the same again behind and beside other calls, refused ones too.
func TestAnswersHangOnArgumentsAlone(t *testing.T) {
	text := somewhat(300)
	want := mustTag(t, somewhat(32), text)
	var all sync.WaitGroup
	for i := range 8 {
		all.Go(func() {
			m, _ := New(somewhat(32))
			for j := range len(text) {
				Tag(full(32), text[:j])
				Tag(full(i), text[:j])
				Equal(text[:i], text[:j])
				m.Write(text[j : j+1])
				if s, e := Tag(somewhat(32), text); s != want || e != api.OK {
					t.Errorf("Tag asked again: %x, %d", s, e)
				}
			}
			if s := m.Sum(); s != want {
				t.Errorf("a Mac beside others: %x", s)
			}
		})
	}
	all.Wait()
}

func TestCallsEndWhateverTheyAreGiven(t *testing.T) {
	texts := []string{"", "\x00", "\xff", "é", full(15), full(16), full(17), zeros(32), full(32), full(33), somewhat(1 << 16)}
	for _, key := range texts {
		m, made := New(key)
		if (m != nil) != (len(key) == 32) || (made == api.OK) != (len(key) == 32) {
			t.Errorf("New of %d bytes: %d", len(key), made)
		}
		for _, text := range texts {
			s, e := Tag(key, text)
			if e != made || (len(s) == 16) != (e == api.OK) {
				t.Errorf("Tag of %d bytes under %d: %x, %d", len(text), len(key), s, e)
			}
			if e := m.Write(text); (e == api.ErrNil) != (m == nil) {
				t.Errorf("Write of %d bytes: %d", len(text), e)
			}
			if len(m.Sum()) != len(s) {
				t.Errorf("Sum behind %d bytes: %x", len(text), m.Sum())
			}
			if Equal(key, text) != (key == text) {
				t.Errorf("Equal of %d and %d bytes", len(key), len(text))
			}
		}
	}
}
