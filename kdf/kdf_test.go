package kdf

import (
	"crypto/hkdf"
	"crypto/hmac"
	"crypto/pbkdf2"
	"crypto/sha256"
	"encoding/hex"
	"math"
	"slices"
	"strings"
	"testing"

	"casket/api"
	"casket/sha"
)

// somewhat is a text of that many bytes, of all values, in which no block is like the one before it.
func somewhat(n int) string {
	b := make([]byte, n)
	x := uint32(88172645)
	for i := range b {
		x ^= x << 13
		x ^= x >> 17
		x ^= x << 5
		b[i] = byte(x >> 11)
	}
	return string(b)
}

// run is the bytes from first to last, each one more than the one before it.
func run(first, last byte) string {
	var b []byte
	for c := int(first); c <= int(last); c++ {
		b = append(b, byte(c))
	}
	return string(b)
}

// theirSum is the library's keyed sum, which the program itself does not use.
func theirSum(key, text string) string {
	h := hmac.New(sha256.New, []byte(key))
	h.Write([]byte(text))
	return string(h.Sum(nil))
}

func theirExpand(t *testing.T, prk, info string, n int) string {
	t.Helper()
	b, err := hkdf.Expand(sha256.New, []byte(prk), info, n)
	if err != nil {
		t.Fatal(err)
	}
	return string(b)
}

func theirPBKDF2(t *testing.T, pass, salt string, rounds, n int) string {
	t.Helper()
	b, err := pbkdf2.Key(sha256.New, pass, []byte(salt), rounds, n)
	if err != nil {
		t.Fatal(err)
	}
	return string(b)
}

func wantText(t *testing.T, what, got, want string) {
	t.Helper()
	if got != want {
		t.Errorf("%s: %x, want %x", what, got, want)
	}
}

func wantDigits(t *testing.T, what, got, digits string) {
	t.Helper()
	want, err := hex.DecodeString(digits)
	if err != nil {
		t.Fatal(err)
	}
	wantText(t, what, got, string(want))
}

func mustWrite(t *testing.T, m *Mac, s string) {
	t.Helper()
	if e := m.Write(s); e != api.OK {
		t.Fatalf("Write of %d bytes: %d", len(s), e)
	}
}

func mustExpand(t *testing.T, prk, info string, n int) string {
	t.Helper()
	s, e := Expand(prk, info, n)
	if e != api.OK {
		t.Fatalf("Expand of %d bytes: %d", n, e)
	}
	return s
}

func mustPBKDF2(t *testing.T, pass, salt string, rounds, n int) string {
	t.Helper()
	s, e := PBKDF2(pass, salt, rounds, n)
	if e != api.OK {
		t.Fatalf("PBKDF2 of %d rounds, %d bytes: %d", rounds, n, e)
	}
	return s
}

// keyLengths and textLengths are about a block's ends, with those between.
func keyLengths() []int {
	return []int{0, 1, 2, 20, 31, 32, 33, 55, 56, 62, 63, 64, 65, 66, 127, 128, 129, 131, 200, 1000, 70000}
}

func textLengths() []int {
	return []int{0, 1, 8, 31, 32, 33, 54, 55, 56, 57, 63, 64, 65, 118, 119, 120, 128, 129, 300, 5000}
}

// P3.1

func TestHMACExamples(t *testing.T) {
	nothing := "b613679a0814d9ec772f95d778c35fc5ff1697c493715653c6c712144292c5ad"
	wantDigits(t, `HMAC("", "")`, HMAC("", ""), nothing)
	wantDigits(t, `HMAC("")`, HMAC(""), nothing)
	wantDigits(t, "Jefe", HMAC("Jefe", "what do ya want ", "for nothing?"), "5bdcc146bf60754e6a042426089575c75a003f089d2739839dec58b964ec3843")
	wantDigits(t, "Hi There", HMAC(strings.Repeat("\x0b", 20), "Hi There"), "b0344c61d8db38535ca8afceaf0bf12b881dc200c9833da726e9376c2e32cff7")
	wantDigits(t, "bytes dd", HMAC(strings.Repeat("\xaa", 20), strings.Repeat("\xdd", 50)), "773ea91e36800e46854db8ebd09181a72959098b3ef8c122d9635514ced565fe")
	wantDigits(t, "a long key", HMAC(strings.Repeat("\xaa", 131), "Test Using Larger Than Block-Size Key - Hash Key First"), "60e431591ee0b67f0d8a26aacbf5b77f8e0bc6213728c5140546040f0ee37f54")
}

func TestHMACOfManyLengths(t *testing.T) {
	for _, k := range keyLengths() {
		for _, n := range textLengths() {
			key, text := somewhat(k), somewhat(n + 9)[9:]
			if got, want := HMAC(key, text), theirSum(key, text); got != want {
				t.Errorf("a key of %d bytes, a text of %d: %x, want %x", k, n, got, want)
			}
		}
	}
}

func TestHMACJoinsItsParts(t *testing.T) {
	key, text := somewhat(40), somewhat(400)
	want := theirSum(key, text)
	for _, cut := range []int{0, 1, 63, 64, 65, 128, 399, 400} {
		wantText(t, "two parts", HMAC(key, text[:cut], text[cut:]), want)
		wantText(t, "empty parts", HMAC(key, "", text[:cut], "", "", text[cut:], ""), want)
	}
	var single []string
	for i := range len(text) {
		single = append(single, text[i:i+1])
	}
	wantText(t, "single bytes", HMAC(key, single...), want)
	wantText(t, "parts in another order", HMAC(key, "b", "a"), theirSum(key, "ba"))
	wantText(t, "many empty parts", HMAC(key, make([]string, 500)...), theirSum(key, ""))
	wantText(t, "no part", HMAC(key), theirSum(key, ""))
	wantText(t, "an empty list", HMAC(key, []string{}...), theirSum(key, ""))
	wantText(t, "a nil list", HMAC(key, nil...), theirSum(key, ""))
}

func TestPartsAreLeftAsTheyWere(t *testing.T) {
	room := []string{"a", somewhat(70), "", "c", "spare", "room"}
	for n := range room {
		before := slices.Clone(room)
		wantText(t, "a piece of a list", HMAC("key", room[:n]...), theirSum("key", strings.Join(room[:n], "")))
		if !slices.Equal(room, before) {
			t.Fatalf("of %d parts: the list is %q now", n, room)
		}
	}
}

// P3.2

func TestMacExample(t *testing.T) {
	m := NewMac("Jefe")
	mustWrite(t, m, "what do ya want ")
	wantText(t, "asked between", m.Sum(), theirSum("Jefe", "what do ya want "))
	mustWrite(t, m, "for nothing?")
	for range 3 {
		wantDigits(t, "asked at the end", m.Sum(), "5bdcc146bf60754e6a042426089575c75a003f089d2739839dec58b964ec3843")
	}
}

func TestMacOfManyLengths(t *testing.T) {
	text := somewhat(700)
	for _, k := range keyLengths() {
		key := somewhat(k)
		m := NewMac(key)
		wantText(t, "nothing has come", m.Sum(), theirSum(key, ""))
		for at, step := 0, 0; at < len(text); step++ {
			end := min(at+step, len(text))
			mustWrite(t, m, text[at:end])
			at = end
			wantText(t, "asked between", m.Sum(), theirSum(key, text[:at]))
			wantText(t, "asked again", m.Sum(), theirSum(key, text[:at]))
		}
		atOnce := NewMac(key)
		mustWrite(t, atOnce, text)
		wantText(t, "written at once", atOnce.Sum(), theirSum(key, text))
	}
}

func TestMacByteByByte(t *testing.T) {
	text := somewhat(200)
	m := NewMac("key")
	for i := range len(text) {
		mustWrite(t, m, text[i:i+1])
		mustWrite(t, m, "")
		wantText(t, "a byte more", m.Sum(), theirSum("key", text[:i+1]))
	}
}

// nearTheEnd is a Mac to which so many bytes have come, in a moment: the words of its inner sum are made up.
func nearTheEnd(t *testing.T, came int) *Mac {
	t.Helper()
	count := uint64(came + blockSize)
	state := []byte(somewhat(32))
	for shift := 56; shift >= 0; shift -= 8 {
		state = append(state, byte(count>>shift))
	}
	h, e := sha.Restore(string(state) + somewhat(int(count%blockSize)))
	if e != api.OK {
		t.Fatalf("Restore: %d", e)
	}
	m := NewMac("key")
	m.inner = *h
	return m
}

func TestMacTakesNoMoreThanItsLimit(t *testing.T) {
	const most = 1099511627712
	for _, c := range []struct {
		came, more int
		want       api.Errno
	}{
		{most - 3, 3, api.OK}, {most - 3, 4, api.ErrBig}, {most - 100, 100, api.OK}, {most - 100, 101, api.ErrBig},
		{most - 64, 64, api.OK}, {most - 64, 65, api.ErrBig}, {most - 64, 128, api.ErrBig},
		{most, 0, api.OK}, {most, 1, api.ErrBig}, {most, 1 << 20, api.ErrBig},
	} {
		m := nearTheEnd(t, c.came)
		before := m.Sum()
		if e := m.Write(somewhat(c.more)); e != c.want {
			t.Errorf("%d bytes behind %d: %d, want %d", c.more, c.came, e, c.want)
		}
		if changed := m.Sum() != before; changed != (c.want == api.OK && c.more > 0) {
			t.Errorf("%d bytes behind %d: the sum is another one: %v", c.more, c.came, changed)
		}
	}
}

func TestMacGoesOnBehindARefusedWrite(t *testing.T) {
	refused, other := nearTheEnd(t, 1099511627712-10), nearTheEnd(t, 1099511627712-10)
	if e := refused.Write(somewhat(11)); e != api.ErrBig {
		t.Fatalf("11 bytes where 10 may come: %d", e)
	}
	mustWrite(t, refused, "0123456789")
	mustWrite(t, other, "0123456789")
	wantText(t, "a Mac that refused a text", refused.Sum(), other.Sum())
	if e := refused.Write("x"); e != api.ErrBig {
		t.Errorf("a full Mac: %d", e)
	}
}

func TestNoMacAnswersNothing(t *testing.T) {
	for name, m := range map[string]*Mac{"nil": nil, "a zero struct": {}} {
		for range 2 {
			if e := m.Write("x"); e != api.ErrNil {
				t.Errorf("%s: Write: %d", name, e)
			}
			if e := m.Write(""); e != api.ErrNil {
				t.Errorf("%s: Write of nothing: %d", name, e)
			}
			if s := m.Sum(); s != "" {
				t.Errorf("%s: Sum: %x", name, s)
			}
		}
	}
}

func TestMacsNeverTouchOneAnother(t *testing.T) {
	text := somewhat(300)
	a, b, c := NewMac("key"), NewMac("key"), NewMac("other")
	mustWrite(t, a, text[:100])
	wantText(t, "b, with nothing", b.Sum(), theirSum("key", ""))
	mustWrite(t, b, text[200:])
	mustWrite(t, c, text[:70])
	mustWrite(t, a, text[100:])
	copied := *a
	mustWrite(t, &copied, "more")
	HMAC("key", "a call between")
	wantText(t, "a", a.Sum(), theirSum("key", text))
	wantText(t, "b", b.Sum(), theirSum("key", text[200:]))
	wantText(t, "c", c.Sum(), theirSum("other", text[:70]))
	wantText(t, "a's copy", copied.Sum(), theirSum("key", text+"more"))
	wantText(t, "a new one", NewMac("key").Sum(), theirSum("key", ""))
}

// P3.3

func TestExtract(t *testing.T) {
	secret := strings.Repeat("\x0b", 22)
	wantDigits(t, "example 5", Extract(run(0, 12), secret), "077709362c2e32df0ddc3f0dc47bba6390b6c73bb50f9c3122ec844ad7c2b3e5")
	wantDigits(t, "example 6", Extract("", secret), "19ef24a32c717b167f33a91d6f648bdf96596776afdb6377ac434c1c293ccb04")
	for _, k := range keyLengths() {
		for _, n := range []int{0, 1, 32, 64, 65, 100} {
			salt, secret := somewhat(k), somewhat(n + 3)[3:]
			wantText(t, "Extract and HMAC", Extract(salt, secret), HMAC(salt, secret))
			theirs, err := hkdf.Extract(sha256.New, []byte(secret), []byte(salt))
			if err != nil {
				t.Fatal(err)
			}
			wantText(t, "Extract and the library's", Extract(salt, secret), string(theirs))
		}
	}
}

// P3.4

func TestExpandExamples(t *testing.T) {
	p := Extract(run(0, 12), strings.Repeat("\x0b", 22))
	wantDigits(t, "example 5", mustExpand(t, p, run(0xf0, 0xf9), 42), "3cb25f25faacd57a90434f64d0362f2a2d2d0a90cf1a5a4c5db02d56ecc4c5bf34007208d5b887185865")
	q := Extract("", strings.Repeat("\x0b", 22))
	wantDigits(t, "example 6", mustExpand(t, q, "", 42), "8da4e775a563c18f715f802a063c5a31b8a11f5c5ee1879ec3454e5f3c738d2d9d201395faa4b61a96c8")
	wantText(t, "example 7", mustExpand(t, q, "", 0), "")
	wantText(t, "example 7", mustExpand(t, q, "", 8160), theirExpand(t, q, "", 8160))
}

func TestExpandOfManyLengths(t *testing.T) {
	for _, k := range []int{0, 1, 31, 32, 33, 64, 65, 200} {
		for _, i := range []int{0, 1, 64, 300} {
			prk, info := somewhat(k), somewhat(i + 5)[5:]
			for _, n := range []int{0, 1, 31, 32, 33, 63, 64, 65, 96, 4064, 4096, 4097, 8127, 8128, 8129, 8159, 8160} {
				wantText(t, "Expand", mustExpand(t, prk, info, n), theirExpand(t, prk, info, n))
			}
		}
	}
}

func TestExpandRefuses(t *testing.T) {
	for _, n := range []int{-1, -2, -32, -8160, 8161, 8192, 1 << 32, math.MinInt, math.MinInt + 1, math.MaxInt} {
		if s, e := Expand("prk", "info", n); s != "" || e != api.ErrLong {
			t.Errorf("Expand of %d: %d bytes, %d", n, len(s), e)
		}
	}
}

// P3.5

func TestPBKDF2Examples(t *testing.T) {
	for _, c := range []struct {
		pass, salt string
		rounds, n  int
		want       string
	}{
		{"password", "salt", 1, 32, "120fb6cffcf8b32c43e7225256c4f837a86548c92ccc35480805987cb70be17b"},
		{"password", "salt", 2, 32, "ae4d0c95af6b46d32d0adff928f06dd02a303f8ef3c251dfd6e2d85a95474c43"},
		{"password", "salt", 4096, 32, "c5e478d59288c841aa530db6845c4c8d962893a001ce4e11a4963873aa98134a"},
		{"passwordPASSWORDpassword", "saltSALTsaltSALTsaltSALTsaltSALTsalt", 4096, 40, "348c89dbcbd32b2f32d814b8116e84cf2b17347ebc1800181c4e2a1fb8dd53e1c635518c7dac47e9"},
		{"pass\x00word", "sa\x00lt", 4096, 16, "89b69d0516f829893c696226650a8687"},
		{"p", "s", 1, 0, ""},
	} {
		wantDigits(t, c.pass, mustPBKDF2(t, c.pass, c.salt, c.rounds, c.n), c.want)
	}
}

func TestPBKDF2OfManyLengths(t *testing.T) {
	for _, rounds := range []int{1, 2, 3, 50} {
		for _, n := range []int{1, 31, 32, 33, 64, 65, 1023, 1024} {
			for _, k := range []int{0, 1, 63, 64, 65, 256} {
				pass, salt := somewhat(k), somewhat(k + n)[k:]
				wantText(t, "PBKDF2", mustPBKDF2(t, pass, salt, rounds, n), theirPBKDF2(t, pass, salt, rounds, n))
			}
		}
		wantText(t, "no salt", mustPBKDF2(t, "pass", "", rounds, 40), theirPBKDF2(t, "pass", "", rounds, 40))
		wantText(t, "no byte", mustPBKDF2(t, "pass", "salt", rounds, 0), "")
	}
	wantText(t, "all rounds, all bytes", mustPBKDF2(t, "pass", "salt", 4096, 1024), theirPBKDF2(t, "pass", "salt", 4096, 1024))
	wantText(t, "a round less", mustPBKDF2(t, "pass", "salt", 4095, 32), theirPBKDF2(t, "pass", "salt", 4095, 32))
}

func TestPBKDF2Refuses(t *testing.T) {
	wrongNumbers := []int{-1, 1025, 2000, math.MinInt, math.MaxInt}
	for _, rounds := range []int{0, -1, 4097, 1 << 32, 1<<32 + 1, math.MinInt, math.MaxInt} {
		for _, n := range append([]int{0, 16, 1024}, wrongNumbers...) {
			if s, e := PBKDF2("p", "s", rounds, n); s != "" || e != api.ErrRounds {
				t.Errorf("PBKDF2 of %d rounds, %d bytes: %d bytes, %d", rounds, n, len(s), e)
			}
		}
	}
	for _, rounds := range []int{1, 2, 4096} {
		for _, n := range wrongNumbers {
			if s, e := PBKDF2("p", "s", rounds, n); s != "" || e != api.ErrLong {
				t.Errorf("PBKDF2 of %d rounds, %d bytes: %d bytes, %d", rounds, n, len(s), e)
			}
		}
	}
}

// P3.6

func TestFewerBytesAreTheBeginningOfMore(t *testing.T) {
	expanded, ofPass := mustExpand(t, "prk", "info", 8160), mustPBKDF2(t, "pass", "salt", 2, 1024)
	for n := range 1025 {
		wantText(t, "Expand", mustExpand(t, "prk", "info", n), expanded[:n])
		wantText(t, "PBKDF2", mustPBKDF2(t, "pass", "salt", 2, n), ofPass[:n])
	}
	for _, n := range []int{4095, 4096, 4097, 8127, 8128, 8129, 8159} {
		wantText(t, "Expand", mustExpand(t, "prk", "info", n), expanded[:n])
	}
}

func sumsUnder(key string) []string {
	m := NewMac(key)
	m.Write("text")
	expanded, _ := Expand(key, "text", 70)
	ofPass, _ := PBKDF2(key, "text", 3, 70)
	return []string{HMAC(key, "text"), m.Sum(), Extract(key, "text"), expanded, ofPass}
}

func TestKeysThatAreOne(t *testing.T) {
	for n := range 64 {
		key := somewhat(n)
		if !slices.Equal(sumsUnder(key), sumsUnder(key+"\x00")) {
			t.Errorf("a key of %d bytes, and with a byte 0 behind it", n)
		}
		if slices.Equal(sumsUnder(key), sumsUnder(key+"\x01")) {
			t.Errorf("a key of %d bytes, and with a byte 1 behind it", n)
		}
	}
	for _, n := range []int{65, 66, 100, 128, 1000} {
		key := somewhat(n)
		if !slices.Equal(sumsUnder(key), sumsUnder(sha.Sum(key))) {
			t.Errorf("a key of %d bytes, and its sum", n)
		}
	}
}

func TestKeysThatAreNotOne(t *testing.T) {
	whole := somewhat(64)
	if HMAC(whole, "text") == HMAC(sha.Sum(whole), "text") {
		t.Error("a key of 64 bytes, and its sum")
	}
	if HMAC(whole, "text") == HMAC(whole+"\x00", "text") {
		t.Error("a key of 64 bytes, and with a byte 0 behind it")
	}
	if HMAC("\x00key", "text") == HMAC("key", "text") {
		t.Error("a key, and with a byte 0 ahead of it")
	}
}

// P3.7

func TestAnswersHangOnArgumentsAlone(t *testing.T) {
	first := sumsUnder("key")
	m := NewMac("key")
	mustWrite(t, m, "other text")
	sumsUnder(somewhat(100))
	Expand("key", "text", -1)
	PBKDF2("key", "text", 0, -1)
	if !slices.Equal(first, sumsUnder("key")) {
		t.Error("the same calls answer otherwise the second time")
	}
	answers := make(chan []string)
	for range 8 {
		go func() { answers <- sumsUnder("key") }()
	}
	for range 8 {
		if !slices.Equal(first, <-answers) {
			t.Error("the same calls answer otherwise at one time")
		}
	}
}

func TestCallsEndWhateverTheyAreGiven(t *testing.T) {
	texts := []string{"", "\x00", "\xff\xfe", somewhat(64), somewhat(65), somewhat(1 << 20)}
	numbers := []int{math.MinInt, -1, 0, 1, 33, 4096, 4097, math.MaxInt}
	for _, a := range texts {
		for _, b := range texts {
			wantText(t, "HMAC", HMAC(a, b), theirSum(a, b))
			m := NewMac(a)
			mustWrite(t, m, b)
			wantText(t, "Mac", m.Sum(), theirSum(a, b))
			for _, n := range numbers {
				s, e := Expand(a, b[:min(len(b), 100)], n)
				if good := n >= 0 && n <= 8160; good != (e == api.OK) || good != (len(s) == n) {
					t.Errorf("Expand of %d: %d bytes, %d", n, len(s), e)
				}
				s, e = PBKDF2(a, b, n, 33)
				if good := n >= 1 && n <= 4096; good != (e == api.OK) || good != (len(s) == 33) {
					t.Errorf("PBKDF2 of %d rounds: %d bytes, %d", n, len(s), e)
				}
			}
		}
	}
}
