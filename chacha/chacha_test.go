package chacha

import (
	"encoding/hex"
	"math"
	"strings"
	"sync"
	"testing"

	"casket/api"
)

// somewhat is a text of that many bytes, of all values, in which no block is like the one before it.
func somewhat(n int) string {
	b := make([]byte, n)
	x := uint32(88172645)
	for i := range b {
		x ^= x << 13
		x ^= x >> 17
		x ^= x << 5
		b[i] = byte(x >> 11)
	}
	return string(b)
}

// rising is the bytes 0, 1, 2 and so on.
func rising(n int) string {
	b := make([]byte, n)
	for i := range b {
		b[i] = byte(i)
	}
	return string(b)
}

func raw(t *testing.T, digits string) string {
	t.Helper()
	b, err := hex.DecodeString(digits)
	if err != nil {
		t.Fatal(err)
	}
	return string(b)
}

func wantText(t *testing.T, what, got, want string) {
	t.Helper()
	if got != want {
		t.Errorf("%s: %x, want %x", what, got, want)
	}
}

// wantFault: an error comes with the empty text.
func wantFault(t *testing.T, what, got string, e, want api.Errno) {
	t.Helper()
	if e != want || got != "" {
		t.Errorf("%s: %x, %d, want nothing, %d", what, got, e, want)
	}
}

func mustBlock(t *testing.T, key string, counter int, nonce string) string {
	t.Helper()
	s, e := Block(key, counter, nonce)
	if e != api.OK {
		t.Fatalf("Block of the counter %d: %d", counter, e)
	}
	return s
}

func mustXor(t *testing.T, key string, counter int, nonce, data string) string {
	t.Helper()
	s, e := Xor(key, counter, nonce, data)
	if e != api.OK {
		t.Fatalf("Xor of %d bytes from the counter %d on: %d", len(data), counter, e)
	}
	return s
}

func mustHChaCha(t *testing.T, key, nonce string) string {
	t.Helper()
	s, e := HChaCha(key, nonce)
	if e != api.OK {
		t.Fatalf("HChaCha: %d", e)
	}
	return s
}

func mustXXor(t *testing.T, key string, counter int, nonce, data string) string {
	t.Helper()
	s, e := XXor(key, counter, nonce, data)
	if e != api.OK {
		t.Fatalf("XXor of %d bytes from the counter %d on: %d", len(data), counter, e)
	}
	return s
}

// What follows does the document's steps once more, in whole numbers that are cut to words by hand, against which the
// program is held: the library has no such stream.

const word = uint64(1) << 32

func plainTurn(x uint64, s int) uint64 { return x<<s%word + x>>(32-s) }

func plainQuarter(w *[16]uint64, a, b, c, d int) {
	w[a] = (w[a] + w[b]) % word
	w[d] = plainTurn(w[d]^w[a], 16)
	w[c] = (w[c] + w[d]) % word
	w[b] = plainTurn(w[b]^w[c], 12)
	w[a] = (w[a] + w[b]) % word
	w[d] = plainTurn(w[d]^w[a], 8)
	w[c] = (w[c] + w[d]) % word
	w[b] = plainTurn(w[b]^w[c], 7)
}

func plainRounds(w [16]uint64) [16]uint64 {
	for range 10 {
		plainQuarter(&w, 0, 4, 8, 12)
		plainQuarter(&w, 1, 5, 9, 13)
		plainQuarter(&w, 2, 6, 10, 14)
		plainQuarter(&w, 3, 7, 11, 15)
		plainQuarter(&w, 0, 5, 10, 15)
		plainQuarter(&w, 1, 6, 11, 12)
		plainQuarter(&w, 2, 7, 8, 13)
		plainQuarter(&w, 3, 4, 9, 14)
	}
	return w
}

func plainState(key, last string) [16]uint64 {
	var w [16]uint64
	for i, c := range []byte("expand 32-byte k" + key + last) {
		w[i/4] += uint64(c) << (8 * (i % 4))
	}
	return w
}

func plainBytes(words ...uint64) string {
	var b []byte
	for _, w := range words {
		for range 4 {
			b = append(b, byte(w%256))
			w /= 256
		}
	}
	return string(b)
}

func plainBlock(key string, counter int, nonce string) string {
	start := plainState(key, plainBytes(uint64(counter))+nonce)
	w := plainRounds(start)
	for i := range w {
		w[i] = (w[i] + start[i]) % word
	}
	return plainBytes(w[:]...)
}

func plainXor(key string, counter int, nonce, data string) string {
	b := []byte(data)
	for i := range b {
		b[i] ^= plainBlock(key, counter+i/64, nonce)[i%64]
	}
	return string(b)
}

func plainHChaCha(key, nonce string) string {
	w := plainRounds(plainState(key, nonce))
	return plainBytes(w[0], w[1], w[2], w[3], w[12], w[13], w[14], w[15])
}

// keys and counters are those at which the steps are held against the plain ones.
func keys() []string {
	return []string{
		strings.Repeat("\x00", 32), strings.Repeat("\xff", 32), rising(32), somewhat(32), somewhat(200)[168:],
		"\x01" + strings.Repeat("\x00", 31), strings.Repeat("\x00", 31) + "\x80",
	}
}

func counters() []int {
	return []int{0, 1, 2, 255, 256, 65536, 1<<31 - 1, 1 << 31, 1<<32 - 2, 1<<32 - 1}
}

// noncesOf has texts of as many bytes as a call asks for.
func noncesOf(size int) []string {
	return []string{
		strings.Repeat("\x00", size), strings.Repeat("\xff", size), rising(size), somewhat(size + 50)[50:],
		"\x80" + strings.Repeat("\x00", size-1), strings.Repeat("\x00", size-1) + "\x01",
	}
}

// wrongCounters are no counters, however little they are used for.
func wrongCounters() []int {
	return []int{-1, -2, 1 << 32, 1<<32 + 1, 1 << 33, -1 << 32, 1 << 62, math.MinInt, math.MinInt + 1, math.MaxInt, math.MaxInt - 1}
}

// P4.2

func TestQuarterExamples(t *testing.T) {
	for _, c := range []struct{ in, want [4]int }{
		{[4]int{0x11111111, 0x01020304, 0x9b8d6f43, 0x01234567}, [4]int{0xea2a92f4, 0xcb1cf8ce, 0x4581472e, 0x5881c4bb}},
		{[4]int{0x516461b1, 0x2a5f714c, 0x53372767, 0x3d631689}, [4]int{0xbdb886dc, 0xcfacafd2, 0xe46bea80, 0xccc07c79}},
		{[4]int{0, 0, 0, 0}, [4]int{0, 0, 0, 0}},
		{[4]int{1, 0, 0, 0}, [4]int{0x10000001, 0x80808808, 0x01010110, 0x01000110}},
	} {
		w, x, y, z, e := Quarter(c.in[0], c.in[1], c.in[2], c.in[3])
		if got := [4]int{w, x, y, z}; got != c.want || e != api.OK {
			t.Errorf("Quarter of %x: %x, %d, want %x", c.in, got, e, c.want)
		}
	}
}

func TestQuarterOfManyWords(t *testing.T) {
	words := []int{0, 1, 0x7f, 0x80, 0xffff, 0x10000, 1<<31 - 1, 1 << 31, 0x9b8d6f43, 1<<32 - 2, 1<<32 - 1}
	for _, a := range words {
		for _, b := range words {
			for _, c := range words {
				for _, d := range words {
					w, x, y, z, e := Quarter(a, b, c, d)
					plain := [16]uint64{uint64(a), uint64(b), uint64(c), uint64(d)}
					plainQuarter(&plain, 0, 1, 2, 3)
					if got := [4]uint64{uint64(w), uint64(x), uint64(y), uint64(z)}; got != [4]uint64(plain[:4]) || e != api.OK {
						t.Fatalf("Quarter of %x, %x, %x, %x: %x, %d, want %x", a, b, c, d, got, e, plain[:4])
					}
				}
			}
		}
	}
}

func TestQuarterRefusesWhatIsNoWord(t *testing.T) {
	for place := range 4 {
		for _, wrong := range wrongCounters() {
			for _, others := range []int{0, 7, 1<<32 - 1} {
				in := [4]int{others, others, others, others}
				in[place] = wrong
				w, x, y, z, e := Quarter(in[0], in[1], in[2], in[3])
				if got := [4]int{w, x, y, z}; e != api.ErrArg || got != [4]int{} {
					t.Errorf("Quarter of %d: %d, %d", in, got, e)
				}
			}
		}
	}
	if w, x, y, z, e := Quarter(-1, 1<<32, math.MinInt, math.MaxInt); e != api.ErrArg || w != 0 || x != 0 || y != 0 || z != 0 {
		t.Errorf("Quarter of four that are no words: %d", e)
	}
}

// P4.3

func TestBlockExamples(t *testing.T) {
	no32, no12 := strings.Repeat("\x00", 32), strings.Repeat("\x00", 12)
	for _, c := range []struct {
		key     string
		counter int
		nonce   string
		want    string
	}{
		{rising(32), 1, raw(t, "000000090000004a00000000"), "10f1e7e4d13b5915500fdd1fa32071c4c7d1f4c733c068030422aa9ac3d46c4ed2826446079faa0914c2d705d98b02a2b5129cd1de164eb9cbd083e8a2503c4e"},
		{no32, 0, no12, "76b8e0ada0f13d90405d6ae55386bd28bdd219b8a08ded1aa836efcc8b770dc7da41597c5157488d7724e03fb8d84a376a43b8f41518a11cc387b669b2ee6586"},
		{no32, 1, no12, "9f07e7be5551387a98ba977c732d080dcb0f29a048e3656912c6533e32ee7aed29b721769ce64e43d57133b074d839d531ed1f28510afb45ace10a1f4b794d6f"},
		{rising(32), 4294967294, raw(t, "000000000000004a00000000"), "143d2a137837a2a369b90769dd68f5ae394a28786b03f80c2a1e8d3d1ebdf4f0181e597e89f42939e94c717d60b681d34cf82dda79827ab2455b13428e525fd9"},
		{rising(32), 4294967295, raw(t, "000000000000004a00000000"), "6d29da5bd16a472910e8c0bdb47edfc8499c3222cc168d3721747fc2b21266d9f15c8339f10f354d16cc9b8e118eb182bf858ce5718fa4e76389ea4eb50a9475"},
	} {
		wantText(t, "Block", mustBlock(t, c.key, c.counter, c.nonce), raw(t, c.want))
	}
}

func TestBlockDoesTheDocumentsSteps(t *testing.T) {
	for _, key := range keys() {
		for _, nonce := range noncesOf(12) {
			for _, counter := range counters() {
				got := mustBlock(t, key, counter, nonce)
				wantText(t, "Block", got, plainBlock(key, counter, nonce))
				if len(got) != 64 {
					t.Errorf("a block of %d bytes", len(got))
				}
			}
		}
	}
}

func TestBlockRefuses(t *testing.T) {
	for _, n := range []int{0, 1, 16, 24, 31, 33, 64, 1000} {
		s, e := Block(somewhat(n), 0, rising(12))
		wantFault(t, "a key of another length", s, e, api.ErrKey)
	}
	for _, n := range []int{0, 1, 8, 11, 13, 16, 24, 1000} {
		s, e := Block(rising(32), 0, somewhat(n))
		wantFault(t, "a nonce of another length", s, e, api.ErrNonce)
	}
	for _, n := range wrongCounters() {
		s, e := Block(rising(32), n, rising(12))
		wantFault(t, "no counter", s, e, api.ErrCounter)
	}
}

// P4.4

// dataLengths are about the ends of blocks, with those between.
func dataLengths() []int {
	return []int{0, 1, 2, 3, 31, 32, 40, 62, 63, 64, 65, 66, 127, 128, 129, 191, 192, 193, 255, 256, 257, 300, 1000}
}

func TestXorExample(t *testing.T) {
	nonce := raw(t, "000000000000004a00000000")
	text := "Ladies and Gentlemen of the class of '99"
	sealed := raw(t, "6e2e359a2568f98041ba0728dd0d6981e97e7aec1d4360c20a27afccfd9fae0bf91b65c5524733ab")
	wantText(t, "Xor", mustXor(t, rising(32), 1, nonce, text), sealed)
	wantText(t, "Xor of that", mustXor(t, rising(32), 1, nonce, sealed), text)
}

func TestXorOfManyLengths(t *testing.T) {
	for _, key := range keys()[2:4] {
		for _, n := range dataLengths() {
			for _, counter := range []int{0, 1, 255, 1<<31 - 1, 1<<32 - 16} {
				data := somewhat(n + 21)[21:]
				wantText(t, "Xor", mustXor(t, key, counter, somewhat(12), data), plainXor(key, counter, somewhat(12), data))
			}
		}
	}
}

func TestXorGoesToTheLastCounter(t *testing.T) {
	for _, left := range []int{1, 2, 3, 5} {
		counter := 1<<32 - left
		for _, less := range []int{0, 1, 63, 64} {
			data := somewhat(64*left - less)
			wantText(t, "up to the last", mustXor(t, rising(32), counter, rising(12), data), plainXor(rising(32), counter, rising(12), data))
		}
		for _, more := range []int{1, 2, 63, 64, 65, 1000} {
			s, e := Xor(rising(32), counter, rising(12), somewhat(64*left+more))
			wantFault(t, "a block too many", s, e, api.ErrCounter)
		}
	}
}

func TestXorOfNothing(t *testing.T) {
	for _, counter := range counters() {
		wantText(t, "no bytes", mustXor(t, rising(32), counter, rising(12), ""), "")
	}
}

func TestXorRefuses(t *testing.T) {
	for _, data := range []string{"", "a", somewhat(200)} {
		for _, n := range []int{0, 1, 16, 31, 33, 64} {
			s, e := Xor(somewhat(n), 0, rising(12), data)
			wantFault(t, "a key of another length", s, e, api.ErrKey)
		}
		for _, n := range []int{0, 8, 11, 13, 16, 24} {
			s, e := Xor(rising(32), 0, somewhat(n), data)
			wantFault(t, "a nonce of another length", s, e, api.ErrNonce)
		}
		for _, n := range wrongCounters() {
			s, e := Xor(rising(32), n, rising(12), data)
			wantFault(t, "no counter", s, e, api.ErrCounter)
		}
	}
}

// P4.5

func TestHChaCha(t *testing.T) {
	got := mustHChaCha(t, rising(32), raw(t, "000000090000004a0000000031415927"))
	wantText(t, "example 7", got, raw(t, "82413b4227b27bfed30e42508a877d73a0f9e4d58a74a853c12ec41326d3ecdc"))
	for _, key := range keys() {
		for _, nonce := range noncesOf(16) {
			got := mustHChaCha(t, key, nonce)
			wantText(t, "HChaCha", got, plainHChaCha(key, nonce))
			if len(got) != 32 {
				t.Errorf("a key of %d bytes", len(got))
			}
		}
	}
}

func TestHChaChaRefuses(t *testing.T) {
	for _, n := range []int{0, 1, 16, 31, 33, 64} {
		s, e := HChaCha(somewhat(n), rising(16))
		wantFault(t, "a key of another length", s, e, api.ErrKey)
	}
	for _, n := range []int{0, 1, 12, 15, 17, 24, 32} {
		s, e := HChaCha(rising(32), somewhat(n))
		wantFault(t, "a nonce of another length", s, e, api.ErrNonce)
	}
}

// P4.6

func TestXXorExample(t *testing.T) {
	sealed := mustXXor(t, rising(32), 1, rising(24), "oats")
	wantText(t, "example 9", sealed, raw(t, "f1a37b0c"))
	wantText(t, "XXor of that", mustXXor(t, rising(32), 1, rising(24), sealed), "oats")
}

func TestXXorIsXorUnderAnotherKey(t *testing.T) {
	for _, key := range keys() {
		for _, nonce := range noncesOf(24) {
			for _, n := range []int{0, 1, 64, 65, 200} {
				data := somewhat(n)
				got := mustXXor(t, key, 4294967290, nonce, data)
				inner, short := mustHChaCha(t, key, nonce[:16]), "\x00\x00\x00\x00"+nonce[16:]
				wantText(t, "XXor and Xor", got, mustXor(t, inner, 4294967290, short, data))
				wantText(t, "XXor and the plain steps", got, plainXor(plainHChaCha(key, nonce[:16]), 4294967290, short, data))
			}
		}
	}
}

func TestXXorGoesToTheLastCounter(t *testing.T) {
	for _, left := range []int{1, 2, 3} {
		mustXXor(t, rising(32), 1<<32-left, rising(24), somewhat(64*left))
		s, e := XXor(rising(32), 1<<32-left, rising(24), somewhat(64*left+1))
		wantFault(t, "a block too many", s, e, api.ErrCounter)
	}
	for _, counter := range counters() {
		wantText(t, "no bytes", mustXXor(t, rising(32), counter, rising(24), ""), "")
	}
}

func TestXXorRefuses(t *testing.T) {
	for _, data := range []string{"", "a", somewhat(200)} {
		for _, n := range []int{0, 1, 16, 31, 33, 64} {
			s, e := XXor(somewhat(n), 0, rising(24), data)
			wantFault(t, "a key of another length", s, e, api.ErrKey)
		}
		for _, n := range []int{0, 12, 16, 23, 25, 32} {
			s, e := XXor(rising(32), 0, somewhat(n), data)
			wantFault(t, "a nonce of another length", s, e, api.ErrNonce)
		}
		for _, n := range wrongCounters() {
			s, e := XXor(rising(32), n, rising(24), data)
			wantFault(t, "no counter", s, e, api.ErrCounter)
		}
	}
}

// P4.1

func TestErrorsComeInTheirOrder(t *testing.T) {
	long := somewhat(129)
	for _, c := range []struct {
		key, counter int
		badNonce     bool
		want         api.Errno
	}{
		{31, -1, true, api.ErrKey}, {31, -1, false, api.ErrKey}, {33, 0, true, api.ErrKey}, {0, 1<<32 - 1, false, api.ErrKey},
		{32, -1, true, api.ErrNonce}, {32, 1 << 32, true, api.ErrNonce}, {32, 1<<32 - 1, true, api.ErrNonce},
		{32, -1, false, api.ErrCounter}, {32, 1 << 32, false, api.ErrCounter},
	} {
		for _, off := range []int{-1, 1} {
			if !c.badNonce {
				off = 0
			}
			s, e := Block(rising(c.key), c.counter, rising(12+off))
			wantFault(t, "Block", s, e, c.want)
			s, e = Xor(rising(c.key), c.counter, rising(12+off), long)
			wantFault(t, "Xor", s, e, c.want)
			s, e = XXor(rising(c.key), c.counter, rising(24+off), long)
			wantFault(t, "XXor", s, e, c.want)
		}
	}
	for _, n := range []int{0, 15, 17, 24} {
		s, e := HChaCha(rising(31), rising(n))
		wantFault(t, "HChaCha", s, e, api.ErrKey)
	}
}

// TestAnswersHangOnArgumentsAlone asks the same again behind and beside other calls, refused ones too.
func TestAnswersHangOnArgumentsAlone(t *testing.T) {
	data := somewhat(300)
	xored := mustXor(t, rising(32), 7, rising(12), data)
	long := mustXXor(t, rising(32), 7, rising(24), data)
	var all sync.WaitGroup
	for i := range 8 {
		all.Go(func() {
			for j := range 50 {
				Block(somewhat(32), i*50+j, somewhat(12))
				Xor(somewhat(32), 1<<32-1, somewhat(12), data)
				Quarter(i, j, i, j)
				if s, e := Xor(rising(32), 7, rising(12), data); s != xored || e != api.OK {
					t.Errorf("Xor asked again: %d", e)
				}
				if s, e := XXor(rising(32), 7, rising(24), data); s != long || e != api.OK {
					t.Errorf("XXor asked again: %d", e)
				}
			}
		})
	}
	all.Wait()
}

// P4.7

func TestTwiceIsTheDataAgain(t *testing.T) {
	for _, key := range keys() {
		for _, n := range dataLengths() {
			data := somewhat(n)
			once := mustXor(t, key, 3, somewhat(12), data)
			wantText(t, "Xor of Xor", mustXor(t, key, 3, somewhat(12), once), data)
			once = mustXXor(t, key, 3, somewhat(24), data)
			wantText(t, "XXor of XXor", mustXXor(t, key, 3, somewhat(24), once), data)
		}
	}
}

func TestXorGoesByBlocks(t *testing.T) {
	const counter = 1<<32 - 16
	for _, n := range []int{65, 128, 129, 192, 500, 1000, 1024} {
		data := somewhat(n)
		whole, long := mustXor(t, rising(32), counter, somewhat(12), data), mustXXor(t, rising(32), counter, somewhat(24), data)
		for cut := 64; cut < n; cut += 64 {
			next := counter + cut/64
			wantText(t, "the first part", mustXor(t, rising(32), counter, somewhat(12), data[:cut]), whole[:cut])
			wantText(t, "the second part", mustXor(t, rising(32), next, somewhat(12), data[cut:]), whole[cut:])
			wantText(t, "XXor's second part", mustXXor(t, rising(32), next, somewhat(24), data[cut:]), long[cut:])
		}
	}
}

func TestXorOfZerosIsTheStream(t *testing.T) {
	for _, n := range dataLengths() {
		var stream strings.Builder
		for i := range (n + 63) / 64 {
			stream.WriteString(mustBlock(t, somewhat(32), 250+i, somewhat(12)))
		}
		got := mustXor(t, somewhat(32), 250, somewhat(12), strings.Repeat("\x00", n))
		wantText(t, "the stream", got, stream.String()[:n])
	}
}
