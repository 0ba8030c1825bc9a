package aead

import (
	"encoding/binary"
	"encoding/hex"
	"strings"
	"sync"
	"testing"

	"casket/api"
	"casket/chacha"
	"casket/poly"
)

const sunscreen = "Ladies and Gentlemen of the class of '99: If I could offer you only one tip for the future, sunscreen would be it."

// somewhat is a text of that many bytes, of all values, in which no block is like the one before it.
func somewhat(n int) string {
	b := make([]byte, n)
	x := uint32(88172645)
	for i := range b {
		x ^= x << 13
		x ^= x >> 17
		x ^= x << 5
		b[i] = byte(x >> 11)
	}
	return string(b)
}

func zeroBytes(n int) string { return strings.Repeat("\x00", n) }

func full(n int) string { return strings.Repeat("\xff", n) }

// rising is that many bytes, from one on.
func rising(from, n int) string {
	b := make([]byte, n)
	for i := range b {
		b[i] = byte(from + i)
	}
	return string(b)
}

func raw(t *testing.T, digits string) string {
	t.Helper()
	b, err := hex.DecodeString(digits)
	if err != nil {
		t.Fatal(err)
	}
	return string(b)
}

func withBitTurned(text string, place, bit int) string {
	b := []byte(text)
	b[place] ^= 1 << bit
	return string(b)
}

func wantText(t *testing.T, what, got, want string) {
	t.Helper()
	if got != want {
		t.Errorf("%s: %s, want %s", what, shown(got), shown(want))
	}
}

// shown spares the reader a million digits.
func shown(s string) string {
	if len(s) > 200 {
		return hex.EncodeToString([]byte(s[:200])) + " .."
	}
	return hex.EncodeToString([]byte(s))
}

// wantFault: an error comes with the empty text.
func wantFault(t *testing.T, what, got string, e, want api.Errno) {
	t.Helper()
	if e != want || got != "" {
		t.Errorf("%s: %s, %d, want nothing, %d", what, shown(got), e, want)
	}
}

func mustSeal(t *testing.T, key, nonce, aad, plain string) string {
	t.Helper()
	s, e := Seal(key, nonce, aad, plain)
	if e != api.OK {
		t.Fatalf("Seal of %d bytes beside %d: %d", len(plain), len(aad), e)
	}
	return s
}

func mustOpen(t *testing.T, key, nonce, aad, box string) string {
	t.Helper()
	s, e := Open(key, nonce, aad, box)
	if e != api.OK {
		t.Fatalf("Open of %d bytes beside %d: %d", len(box), len(aad), e)
	}
	return s
}

// What follows does the document's words once more, with one text joined, against which the program is held.

// below is what a layer below answers where it must not refuse.
func below(s string, e api.Errno) string {
	if e != api.OK {
		panic(e)
	}
	return s
}

func plainLock(key, nonce string) (string, string) {
	if len(nonce) == 12 {
		return key, nonce
	}
	return below(chacha.HChaCha(key, nonce[:16])), zeroBytes(4) + nonce[16:]
}

func plainFilled(s string) string {
	for len(s)%16 != 0 {
		s += "\x00"
	}
	return s
}

// plainTagText is what the tag is made of.
func plainTagText(aad, cipher string) string {
	var lengths []byte
	lengths = binary.LittleEndian.AppendUint64(lengths, uint64(len(aad)))
	lengths = binary.LittleEndian.AppendUint64(lengths, uint64(len(cipher)))
	return plainFilled(aad) + plainFilled(cipher) + string(lengths)
}

func plainTag(key, nonce, aad, cipher string) string {
	key, nonce = plainLock(key, nonce)
	return below(poly.Tag(below(chacha.Block(key, 0, nonce))[:32], plainTagText(aad, cipher)))
}

func plainCipher(key, nonce, plain string) string {
	key, nonce = plainLock(key, nonce)
	return below(chacha.Xor(key, 1, nonce, plain))
}

func plainSeal(key, nonce, aad, plain string) string {
	cipher := plainCipher(key, nonce, plain)
	return cipher + plainTag(key, nonce, aad, cipher)
}

func someKeys() []string {
	return []string{rising(0x80, 32), somewhat(32), zeroBytes(32), full(32)}
}

// someNonces are of both lengths.
func someNonces() []string {
	return []string{somewhat(12), zeroBytes(12), full(12), somewhat(24), zeroBytes(24), full(24), rising(0x40, 24), zeroBytes(23) + "\x01"}
}

// textLengths are about the ends of what is filled up, and of the stream's blocks.
func textLengths() []int {
	return []int{0, 1, 2, 14, 15, 16, 17, 31, 32, 33, 47, 48, 63, 64, 65, 127, 128, 129, 255, 256, 257, 1000}
}

// P6.1

func TestSealExamples(t *testing.T) {
	key, aad := rising(0x80, 32), raw(t, "50515253c0c1c2c3c4c5c6c7")
	for _, c := range []struct{ nonce, cipher, tag string }{
		{"070000004041424344454647", "d31a8d34648e60db7b86afbc53ef7ec2a4aded51296e08fea9e2b5a736ee62d63dbea45e8ca9671282fafb69da92728b1a71de0a9e060b2905d6a5b67ecd3b3692ddbd7f2d778b8c9803aee328091b58fab324e4fad675945585808b4831d7bc3ff4def08e4b7a9de576d26586cec64b6116", "1ae10b594f09e26a7e902ecbd0600691"},
		{"404142434445464748494a4b4c4d4e4f5051525354555657", "bd6d179d3e83d43b9576579493c0e939572a1700252bfaccbed2902c21396cbb731c7f1b0b4aa6440bf3a82f4eda7e39ae64c6708c54c216cb96b72e1213b4522f8c9ba40db5d945b11b69b982c1bb9e3f3fac2bc369488f76b2383565d3fff921f9664c97637da9768812f615c68b13b52e", "c0875924c1c7987947deafd8780acf49"},
	} {
		nonce, box := raw(t, c.nonce), raw(t, c.cipher+c.tag)
		wantText(t, "Seal", mustSeal(t, key, nonce, aad, sunscreen), box)
		wantText(t, "Open", mustOpen(t, key, nonce, aad, box), sunscreen)
	}
}

// TestOpenOfTheStandardsExample: RFC 8439, A.5.
func TestOpenOfTheStandardsExample(t *testing.T) {
	key := raw(t, "1c9240a5eb55d38af333888604f6b5f0473917c1402b80099dca5cbc207075c0")
	nonce, aad := raw(t, "000000000102030405060708"), raw(t, "f33388860000000000004e91")
	plain := "Internet-Drafts are draft documents valid for a maximum of six months and may be updated, replaced, or obsoleted by other documents at any time. It is inappropriate to use Internet-Drafts as reference material or to cite them other than as /\xe2\x80\x9cwork in progress./\xe2\x80\x9d"
	box := raw(t, "64a0861575861af460f062c79be643bd5e805cfd345cf389f108670ac76c8cb24c6cfc18755d43eea09ee94e382d26b0bdb7b73c321b0100d4f03b7f355894cf332f830e710b97ce98c8a84abd0b948114ad176e008d33bd60f982b1ff37c8559797a06ef4f0ef61c186324e2b3506383606907b6a7c02b0f9f6157b53c867e4b9166c767b804d46a59b5216cde7a4e99040c5a40433225ee282a1b0a06c523eaf4534d7f83fa1155b0047718cbc546a0d072b04b3564eea1b422273f548271a0bb2316053fa76991955ebd63159434ecebb4e466dae5a1073a6727627097a1049e617d91d361094fa68f0ff77987130305beaba2eda04df997b714d6c6f2c29a6ad5cb4022b02709beead9d67890cbb22392336fea1851f38")
	wantText(t, "Open", mustOpen(t, key, nonce, aad, box), plain)
	wantText(t, "Seal", mustSeal(t, key, nonce, aad, plain), box)
}

// othersKey and othersBytes are what the boxes were made of by another program.
func othersKey() string {
	b := make([]byte, 32)
	for i := range b {
		b[i] = byte(i*37 + 11)
	}
	return string(b)
}

func othersBytes(n, first int) string {
	b := make([]byte, n)
	for i := range b {
		b[i] = byte(i*i + 3*i + first)
	}
	return string(b)
}

func TestBoxesThatOthersMake(t *testing.T) {
	for _, c := range []struct {
		nonce, aad, plain int
		box               string
	}{
		{12, 0, 0, "5c61136891f6f135e1bbdb94a5b12304"},
		{24, 0, 0, "02a10c6fa912de22ff8fd2bc39e8df9c"},
		{12, 0, 1, "cf688b5a12cc70ac779d10e85dc1b75ff9"},
		{24, 0, 1, "8e703a46279bbe158618f718702fa1905d"},
		{12, 1, 0, "f1ac1a3962c078d0b874bab5d48aa547"},
		{24, 1, 0, "404162d9ec89c7e73905df60998989c7"},
		{12, 15, 16, "cf09f81e46d9fca3b288cf5b5377741e70c88e08c7d10c087025c6f92ad4fccd"},
		{24, 15, 16, "8e9e5d231d3a7986c4e39ce35355ee3dbb36e0e75c2d8da7dcb9ac21347695ae"},
		{12, 16, 15, "cf09f81e46d9fca3b288cf5b537774ca83c52f73860e130acea0af1161a0b6"},
		{24, 16, 15, "8e9e5d231d3a7986c4e39ce35355ee86fadd4297cb526b427a65448b4c27f6"},
		{12, 17, 17, "cf09f81e46d9fca3b288cf5b5377741e6554c4eb251d7f1c2eb8b7d05576b74ce1"},
		{24, 17, 17, "8e9e5d231d3a7986c4e39ce35355ee3df9755c52a4be2122b65f278130241d9242"},
		{12, 40, 64, "cf09f81e46d9fca3b288cf5b5377741e65571545efd73c238e6041b7b6e0a9cd177a119ea5a1413f98c96121be198f258760bea9ea70fad635620d412f8ad0128a391476fcdf29dfbdf557bf717f5a63"},
		{24, 40, 64, "8e9e5d231d3a7986c4e39ce35355ee3df9c0f649dcf454ee31c1dae1c7bcc70ed8bb6971537b58d38a3e07934bfc74b790c439aa5eaf57f9f62e4709091b90403364bea72df664895d056d12ec6381cd"},
		{12, 3, 65, "cf09f81e46d9fca3b288cf5b5377741e65571545efd73c238e6041b7b6e0a9cd177a119ea5a1413f98c96121be198f258760bea9ea70fad635620d412f8ad01265c713f8bb981d67bb1eea5fc48750054c"},
		{24, 3, 65, "8e9e5d231d3a7986c4e39ce35355ee3df9c0f649dcf454ee31c1dae1c7bcc70ed8bb6971537b58d38a3e07934bfc74b790c439aa5eaf57f9f62e4709091b90405e742df959aa0a171477243357d9f7356b"},
	} {
		nonce, aad, plain := othersBytes(c.nonce, 200), othersBytes(c.aad, 9), othersBytes(c.plain, 5)
		wantText(t, "Seal", mustSeal(t, othersKey(), nonce, aad, plain), raw(t, c.box))
		wantText(t, "Open", mustOpen(t, othersKey(), nonce, aad, raw(t, c.box)), plain)
	}
}

// TestTagsOfLongTextsThatOthersMake has texts of which the lengths take two and three bytes, as long as may be too.
func TestTagsOfLongTextsThatOthersMake(t *testing.T) {
	for _, c := range []struct {
		nonce, aad, plain int
		tag               string
	}{
		{12, 1000, 300, "128f8c1f261a66e221c0b0845751cf2d"},
		{24, 1000, 300, "764739946f6aa976913b720fdca71079"},
		{12, 70000, 257, "619ce07669cf21533a46b483563dfe21"},
		{24, 70000, 257, "46b22485d1efa47b068a7c26ec854ec0"},
		{12, api.MaxPlain, api.MaxPlain, "1a1d1319dfa63f3715e09426265579d2"},
		{24, api.MaxPlain, api.MaxPlain, "08af30e9ab06603659f91b4586c113f8"},
	} {
		nonce, aad, plain := othersBytes(c.nonce, 200), othersBytes(c.aad, 9), othersBytes(c.plain, 5)
		box := mustSeal(t, othersKey(), nonce, aad, plain)
		wantText(t, "the tag", box[c.plain:], raw(t, c.tag))
		wantText(t, "Open", mustOpen(t, othersKey(), nonce, aad, box), plain)
	}
}

func TestSealDoesTheDocumentsSteps(t *testing.T) {
	for _, key := range someKeys() {
		for _, nonce := range someNonces() {
			for _, n := range textLengths() {
				for _, m := range []int{0, 1, 15, 16, 17, 300} {
					aad, plain := somewhat(m + 9)[9:], somewhat(n)
					box := mustSeal(t, key, nonce, aad, plain)
					wantText(t, "Seal", box, plainSeal(key, nonce, aad, plain))
					if len(box) != n+16 {
						t.Errorf("a box of %d bytes for %d", len(box), n)
					}
				}
			}
		}
	}
}

// TestWhatTheTagIsMadeOf: example 8, by bytes that are written out.
func TestWhatTheTagIsMadeOf(t *testing.T) {
	for _, c := range []struct{ aad, cipher, made string }{
		{"ab", "", "ab" + zeroBytes(14) + "\x02" + zeroBytes(7) + zeroBytes(8)},
		{"", "", zeroBytes(16)},
		{"", "ab", "ab" + zeroBytes(14) + zeroBytes(8) + "\x02" + zeroBytes(7)},
		{full(16), "c", full(16) + "c" + zeroBytes(15) + "\x10" + zeroBytes(7) + "\x01" + zeroBytes(7)},
		{full(17), full(16), full(17) + zeroBytes(15) + full(16) + "\x11" + zeroBytes(7) + "\x10" + zeroBytes(7)},
		{full(256), full(0x10203), full(256) + full(0x10203) + zeroBytes(13) + "\x00\x01" + zeroBytes(6) + "\x03\x02\x01" + zeroBytes(5)},
	} {
		for _, nonce := range someNonces() {
			inner, short := plainLock(somewhat(32), nonce)
			want := below(poly.Tag(below(chacha.Block(inner, 0, short))[:32], c.made))
			plain := plainCipher(somewhat(32), nonce, c.cipher)
			wantText(t, "the tag", mustSeal(t, somewhat(32), nonce, c.aad, plain), c.cipher+want)
		}
	}
}

// TestLongNonceIsShortened: example 9.
func TestLongNonceIsShortened(t *testing.T) {
	for _, key := range someKeys() {
		for _, nonce := range someNonces() {
			if len(nonce) != 24 {
				continue
			}
			inner, short := below(chacha.HChaCha(key, nonce[:16])), zeroBytes(4)+nonce[16:]
			box := mustSeal(t, key, nonce, "aside", sunscreen)
			wantText(t, "Seal", box, mustSeal(t, inner, short, "aside", sunscreen))
			wantText(t, "Open", mustOpen(t, inner, short, "aside", box), sunscreen)
		}
	}
}

// TestEveryBitOfKeyAndNonceCounts: the box is another one, and it is not opened by them.
func TestEveryBitOfKeyAndNonceCounts(t *testing.T) {
	for _, nonce := range []string{somewhat(12), somewhat(24)} {
		box := mustSeal(t, somewhat(32), nonce, "aside", "oats")
		for place := range 32 + len(nonce) {
			for bit := range 8 {
				other := withBitTurned(somewhat(32)+nonce, place, bit)
				if mustSeal(t, other[:32], other[32:], "aside", "oats") == box {
					t.Errorf("the bit %d of byte %d turned: the same box", bit, place)
				}
				s, e := Open(other[:32], other[32:], "aside", box)
				wantFault(t, "another key or nonce", s, e, api.ErrTag)
			}
		}
	}
}

// refusal is what both calls refuse, whatever text comes with it.
type refusal struct {
	key, nonce, aad string
	want            api.Errno
}

// refusals have, beside the fault that is told, some that are told behind it.
func refusals() []refusal {
	var out []refusal
	big := strings.Repeat("x", api.MaxPlain+1)
	for _, n := range []int{0, 1, 12, 16, 24, 31, 33, 64, 1000} {
		out = append(out, refusal{somewhat(n), somewhat(12), "", api.ErrKey}, refusal{somewhat(n), somewhat(24), "", api.ErrKey})
		out = append(out, refusal{somewhat(n), somewhat(13), big, api.ErrKey}, refusal{somewhat(n), "", "", api.ErrKey})
	}
	for _, n := range []int{0, 1, 8, 11, 13, 16, 23, 25, 32, 1000} {
		out = append(out, refusal{somewhat(32), somewhat(n), "", api.ErrNonce}, refusal{somewhat(32), somewhat(n), big, api.ErrNonce})
	}
	for _, n := range []int{12, 24} {
		out = append(out, refusal{somewhat(32), somewhat(n), big, api.ErrBig}, refusal{somewhat(32), somewhat(n), big + big, api.ErrBig})
	}
	return out
}

func TestSealRefuses(t *testing.T) {
	big := strings.Repeat("x", api.MaxPlain+1)
	for _, c := range refusals() {
		for _, plain := range []string{"", sunscreen, big} {
			s, e := Seal(c.key, c.nonce, c.aad, plain)
			wantFault(t, "Seal", s, e, c.want)
		}
	}
	for _, nonce := range []string{somewhat(12), somewhat(24)} {
		for _, aad := range []string{"", "aside", big[1:]} {
			s, e := Seal(somewhat(32), nonce, aad, big)
			wantFault(t, "a byte too many", s, e, api.ErrBig)
			if box := mustSeal(t, somewhat(32), nonce, aad, big[1:]); len(box) != 1048592 {
				t.Errorf("a box of %d bytes", len(box))
			}
		}
	}
}

// P6.2

func TestOpenRefuses(t *testing.T) {
	huge := strings.Repeat("x", api.MaxPlain+17)
	for _, c := range refusals() {
		for _, box := range []string{"", full(15), full(16), huge} {
			s, e := Open(c.key, c.nonce, c.aad, box)
			wantFault(t, "Open", s, e, c.want)
		}
	}
	for _, nonce := range []string{somewhat(12), somewhat(24)} {
		s, e := Open(somewhat(32), nonce, "", huge)
		wantFault(t, "a byte too many", s, e, api.ErrBig)
		s, e = Open(somewhat(32), nonce, "", huge[1:])
		wantFault(t, "as long as may be", s, e, api.ErrTag)
		for n := range 16 {
			for _, aad := range []string{"", "aside", huge[17:]} {
				s, e := Open(somewhat(32), nonce, aad, somewhat(n))
				wantFault(t, "shorter than a tag", s, e, api.ErrShort)
			}
		}
		s, e = Open(somewhat(32), nonce, "", somewhat(16))
		wantFault(t, "as long as a tag", s, e, api.ErrTag)
	}
}

// TestOpenOfALimitsBox: what is as long as may be is opened.
func TestOpenOfALimitsBox(t *testing.T) {
	plain := strings.Repeat(somewhat(1024), 1024)
	for _, nonce := range []string{somewhat(12), somewhat(24)} {
		for _, aad := range []string{"", plain} {
			box := mustSeal(t, somewhat(32), nonce, aad, plain)
			wantText(t, "Open", mustOpen(t, somewhat(32), nonce, aad, box), plain)
			for _, place := range []int{0, 1 << 19, 1<<20 - 1, 1 << 20, len(box) - 1} {
				s, e := Open(somewhat(32), nonce, aad, withBitTurned(box, place, 3))
				wantFault(t, "a bit turned", s, e, api.ErrTag)
			}
		}
	}
}

// TestOpenOfWhatWasChanged: every bit of the box and of the aad, every beginning of the box, and what is longer.
func TestOpenOfWhatWasChanged(t *testing.T) {
	for _, nonce := range []string{somewhat(12), somewhat(24)} {
		for _, plain := range []string{"", "a", sunscreen} {
			aad := somewhat(20)
			box := mustSeal(t, somewhat(32), nonce, aad, plain)
			for i := range 8 * len(box) {
				s, e := Open(somewhat(32), nonce, aad, withBitTurned(box, i/8, i%8))
				wantFault(t, "a bit of the box turned", s, e, api.ErrTag)
			}
			for i := range 8 * len(aad) {
				s, e := Open(somewhat(32), nonce, withBitTurned(aad, i/8, i%8), box)
				wantFault(t, "a bit of the aad turned", s, e, api.ErrTag)
			}
			for n := range box {
				want := api.ErrTag
				if n < 16 {
					want = api.ErrShort
				}
				s, e := Open(somewhat(32), nonce, aad, box[:n])
				wantFault(t, "a beginning", s, e, want)
			}
			for _, other := range []string{box + "\x00", "\x00" + box, box + box[len(box)-16:], box + box} {
				s, e := Open(somewhat(32), nonce, aad, other)
				wantFault(t, "longer", s, e, api.ErrTag)
			}
		}
	}
}

// TestOpenOfWhatIsFilledUp: bytes 0 behind the aad or the cipher text, and bytes that change sides, are found out, though
// what is filled up is the same.
func TestOpenOfWhatIsFilledUp(t *testing.T) {
	key := somewhat(32)
	for _, nonce := range []string{somewhat(12), somewhat(24)} {
		box := mustSeal(t, key, nonce, "aside", "oats")
		cipher, tag := box[:4], box[4:]
		for n := 1; n < 30; n++ {
			s, e := Open(key, nonce, "aside"+zeroBytes(n), box)
			wantFault(t, "zeros behind the aad", s, e, api.ErrTag)
			s, e = Open(key, nonce, "aside", cipher+zeroBytes(n)+tag)
			wantFault(t, "zeros behind the cipher text", s, e, api.ErrTag)
		}
		whole := mustSeal(t, key, nonce, full(16), somewhat(32))
		s, e := Open(key, nonce, full(16)+whole[:16], whole[16:])
		wantFault(t, "a piece as aad", s, e, api.ErrTag)
		s, e = Open(key, nonce, "", full(16)+whole)
		wantFault(t, "the aad as a piece", s, e, api.ErrTag)
	}
}

// TestOpenWantsTheWholeTag: sixteen bytes of another kind are none.
func TestOpenWantsTheWholeTag(t *testing.T) {
	for _, nonce := range []string{somewhat(12), somewhat(24)} {
		box := mustSeal(t, somewhat(32), nonce, "aside", sunscreen)
		cipher, tag := box[:len(sunscreen)], box[len(sunscreen):]
		others := []string{zeroBytes(16), full(16), plainTag(somewhat(32), nonce, "", cipher), plainTag(somewhat(32), nonce, "aside", ""), plainTag(somewhat(32), nonce, "aside", sunscreen)}
		for i := range 16 {
			for j := range i {
				b := []byte(tag)
				b[i] ^= 1
				b[j] ^= 1
				others = append(others, string(b))
				b = []byte(tag)
				b[i], b[j] = b[j], b[i]
				if string(b) != tag {
					others = append(others, string(b))
				}
			}
		}
		for _, other := range others {
			s, e := Open(somewhat(32), nonce, "aside", cipher+other)
			wantFault(t, "another tag", s, e, api.ErrTag)
		}
	}
}

// P6.3

func TestSealedAndOpened(t *testing.T) {
	for _, key := range someKeys() {
		for _, nonce := range someNonces() {
			for _, n := range textLengths() {
				for _, plain := range []string{somewhat(n), zeroBytes(n), full(n)} {
					aad := somewhat(n % 40)
					box := mustSeal(t, key, nonce, aad, plain)
					wantText(t, "opened", mustOpen(t, key, nonce, aad, box), plain)
					wantText(t, "sealed again", mustSeal(t, key, nonce, aad, plain), box)
				}
			}
		}
	}
}

// TestWhatIsOpenedIsWhatSealMakes begins with boxes that Seal did not make.
func TestWhatIsOpenedIsWhatSealMakes(t *testing.T) {
	for _, key := range someKeys() {
		for _, nonce := range someNonces() {
			for _, n := range textLengths() {
				for _, cipher := range []string{somewhat(n), zeroBytes(n), full(n)} {
					box := cipher + plainTag(key, nonce, "aside", cipher)
					plain := mustOpen(t, key, nonce, "aside", box)
					wantText(t, "opened", plain, plainCipher(key, nonce, cipher))
					wantText(t, "sealed", mustSeal(t, key, nonce, "aside", plain), box)
				}
			}
		}
	}
}

// TestOpenTellsByWhatSealMakes: of any box either the answer is sealed to the box again, or there is none.
func TestOpenTellsByWhatSealMakes(t *testing.T) {
	key, opened := somewhat(32), 0
	for _, nonce := range []string{somewhat(12), somewhat(24)} {
		right := plainTag(key, nonce, "", "ab")
		for last := range 256 {
			box := "ab" + right[:15] + string([]byte{byte(last)})
			plain, e := Open(key, nonce, "", box)
			if e == api.OK {
				opened++
				wantText(t, "sealed", mustSeal(t, key, nonce, "", plain), box)
				continue
			}
			wantFault(t, "another tag", plain, e, api.ErrTag)
		}
	}
	if opened != 2 {
		t.Errorf("%d boxes of one cipher text each were opened under two nonces", opened)
	}
}

// P6.4

// TestAnswersHangOnArgumentsAlone asks the same again behind and beside other calls, refused ones too.
func TestAnswersHangOnArgumentsAlone(t *testing.T) {
	want := mustSeal(t, somewhat(32), somewhat(24), "aside", sunscreen)
	var all sync.WaitGroup
	for i := range 8 {
		all.Go(func() {
			for j := range 100 {
				Seal(full(32), somewhat(12), somewhat(j), somewhat(i))
				Seal(full(i), somewhat(12), "", "")
				Open(somewhat(32), somewhat(24), "aside", want[:j])
				if s, e := Seal(somewhat(32), somewhat(24), "aside", sunscreen); s != want || e != api.OK {
					t.Errorf("Seal asked again: %x, %d", s, e)
				}
				if s, e := Open(somewhat(32), somewhat(24), "aside", want); s != sunscreen || e != api.OK {
					t.Errorf("Open asked again: %q, %d", s, e)
				}
			}
		})
	}
	all.Wait()
}

func TestCallsEndWhateverTheyAreGiven(t *testing.T) {
	texts := []string{"", "\x00", "é", full(11), full(12), full(13), full(15), full(16), full(24), full(31), full(32), full(33), somewhat(1 << 12)}
	for _, key := range texts {
		for _, nonce := range texts {
			taken := len(key) == 32 && (len(nonce) == 12 || len(nonce) == 24)
			for _, aad := range texts {
				for _, text := range texts {
					box, e := Seal(key, nonce, aad, text)
					if (e == api.OK) != taken || (len(box) == len(text)+16) != taken || !taken && box != "" {
						t.Errorf("Seal of %d, %d, %d, %d bytes: %d, %d", len(key), len(nonce), len(aad), len(text), len(box), e)
					}
					if s, f := Open(key, nonce, aad, text); s != "" || f == api.OK {
						t.Errorf("Open of %d, %d, %d, %d bytes: %d, %d", len(key), len(nonce), len(aad), len(text), len(s), f)
					}
				}
			}
		}
	}
}

// Inside

// TestHandOn: all pieces come in their order, up to the first that is refused.
func TestHandOn(t *testing.T) {
	var got []string
	take := func(s string) api.Errno {
		got = append(got, s)
		if s == "no" {
			return api.ErrNil
		}
		return api.OK
	}
	if e := handOn(take, "a", "", "bc"); e != api.OK || strings.Join(got, "|") != "a||bc" {
		t.Errorf("handed on: %q, %d", got, e)
	}
	got = nil
	if e := handOn(take, "a", "no", "b"); e != api.ErrNil || strings.Join(got, "|") != "a|no" {
		t.Errorf("handed on up to what is refused: %q, %d", got, e)
	}
	if e := handOn(take); e != api.OK {
		t.Errorf("nothing to hand on: %d", e)
	}
}
