package keyring

import (
	"crypto/pbkdf2"
	"crypto/sha256"
	"encoding/binary"
	"encoding/hex"
	"fmt"
	"math"
	"math/rand"
	"slices"
	"strings"
	"sync"
	"testing"

	"casket/aead"
	"casket/api"
)

var master = strings.Repeat("m", 32)

// somewhat is a text of that many bytes, of all values, in which no block is like the one before it.
func somewhat(n int) string {
	b := make([]byte, n)
	x := uint32(88172645)
	for i := range b {
		x ^= x << 13
		x ^= x >> 17
		x ^= x << 5
		b[i] = byte(x >> 11)
	}
	return string(b)
}

// rising is that many bytes, from one on.
func rising(from, n int) string {
	b := make([]byte, n)
	for i := range b {
		b[i] = byte(from + i)
	}
	return string(b)
}

func c56() string { return rising(0, 56) }

func c40() string { return rising(0x80, 40) }

// What follows does the document's words once more, with the library's sums and with one text joined, against which the
// program is held.

func plainSlotKey(t *testing.T, pass, salt string, rounds int) string {
	t.Helper()
	p := sha256.Sum256([]byte("casket passphrase" + pass))
	key, err := pbkdf2.Key(sha256.New, string(p[:]), []byte(salt), rounds, 32)
	if err != nil {
		t.Fatal(err)
	}
	return string(key)
}

func plainSlot(t *testing.T, id, master, pass string, rounds int, coins string) api.RingSlot {
	t.Helper()
	salt, nonce := coins[:16], coins[16:40]
	aad := binary.BigEndian.AppendUint32([]byte("casket ring"+id+salt), uint32(rounds))
	box, e := aead.Seal(plainSlotKey(t, pass, salt, rounds), nonce, string(aad), master)
	if e != api.OK {
		t.Fatalf("Seal: %d", e)
	}
	return api.RingSlot{Salt: salt, Rounds: rounds, Wrapped: nonce + box}
}

func plainSum(s string) string { return fmt.Sprintf("%x", sha256.Sum256([]byte(s))) }

// plainText is the text of anything that can be written down, a ring or not.
func plainText(r api.Ring) string {
	s := fmt.Sprintf("casket ring 1\nid %x\nslots %d\n", r.Id, len(r.Slots))
	for _, x := range r.Slots {
		s += fmt.Sprintf("slot %d %x %x\n", x.Rounds, x.Salt, x.Wrapped)
	}
	return summed(s)
}

// summed is lines, with the line of their sum behind them.
func summed(lines string) string { return lines + "sum " + plainSum(lines) + "\n" }

// resummed is a text with its last line put right.
func resummed(text string) string { return summed(text[:strings.LastIndex(text, "sum ")]) }

func copyOf(r api.Ring) api.Ring { return api.Ring{Id: r.Id, Slots: slices.Clone(r.Slots)} }

func sameRing(a, b api.Ring) bool { return a.Id == b.Id && slices.Equal(a.Slots, b.Slots) }

func isZero(r api.Ring) bool { return r.Id == "" && len(r.Slots) == 0 }

func mustMake(t *testing.T, master, pass string, rounds int, coins string) string {
	t.Helper()
	s, e := Make(master, pass, rounds, coins)
	if e != api.OK {
		t.Fatalf("Make of %d rounds: %d", rounds, e)
	}
	return s
}

func mustAdd(t *testing.T, text, pass, next string, rounds int, coins string) string {
	t.Helper()
	s, e := Add(text, pass, next, rounds, coins)
	if e != api.OK {
		t.Fatalf("Add under %q: %d", pass, e)
	}
	return s
}

func mustChange(t *testing.T, text, pass, next string, rounds int, coins string) string {
	t.Helper()
	s, e := Change(text, pass, next, rounds, coins)
	if e != api.OK {
		t.Fatalf("Change under %q: %d", pass, e)
	}
	return s
}

func mustDrop(t *testing.T, text, pass string, slot int) string {
	t.Helper()
	s, e := Drop(text, pass, slot)
	if e != api.OK {
		t.Fatalf("Drop of slot %d under %q: %d", slot, pass, e)
	}
	return s
}

func mustParse(t *testing.T, text string) api.Ring {
	t.Helper()
	r, e := Parse(text)
	if e != api.OK {
		t.Fatalf("Parse of %.80q: %d", text, e)
	}
	return r
}

func mustPrint(t *testing.T, r api.Ring) string {
	t.Helper()
	s, e := Print(r)
	if e != api.OK {
		t.Fatalf("Print of a ring of %d slots: %d", len(r.Slots), e)
	}
	return s
}

func wantText(t *testing.T, what, got, want string) {
	t.Helper()
	if got != want {
		t.Errorf("%s: %q, want %q", what, got, want)
	}
}

// wantCode: an error comes with the empty text, OK with some text.
func wantCode(t *testing.T, what, got string, e, want api.Errno) {
	t.Helper()
	if e != want || (got == "") != (e != api.OK) {
		t.Errorf("%s: %d with %d bytes, want %d", what, e, len(got), want)
	}
}

func wantOpens(t *testing.T, text, pass, key string, slot int) {
	t.Helper()
	if m, i, e := Unlock(text, pass); m != key || i != slot || e != api.OK {
		t.Errorf("Unlock under %q: %x, slot %d, %d, want slot %d", pass, m, i, e, slot)
	}
}

func wantShut(t *testing.T, text, pass string, want api.Errno) {
	t.Helper()
	if m, i, e := Unlock(text, pass); m != "" || i != 0 || e != want {
		t.Errorf("Unlock under %q: %x, slot %d, %d, want %d", pass, m, i, e, want)
	}
}

func wantParse(t *testing.T, what, text string, want api.Errno) {
	t.Helper()
	if r, e := Parse(text); e != want || isZero(r) != (e != api.OK) {
		t.Errorf("Parse, %s: %d, want %d", what, e, want)
	}
}

// T and U of the document's examples.
func textT(t *testing.T) string { return mustMake(t, master, "oats", 2, c56()) }

func textU(t *testing.T) string { return mustAdd(t, textT(t), "oats", "rye", 3, c40()) }

// ringOf has that many slots, which hold the master key under "p0", "p1" and so on.
func ringOf(t *testing.T, n int) api.Ring {
	t.Helper()
	r := api.Ring{Id: rising(200, 16)}
	for i := range n {
		r.Slots = append(r.Slots, plainSlot(t, r.Id, master, fmt.Sprintf("p%d", i), i+1, rising(5*i, 40)))
	}
	return r
}

// The texts that another program made of the same arguments.
const (
	othersT = `casket ring 1
id 000102030405060708090a0b0c0d0e0f
slots 1
slot 2 101112131415161718191a1b1c1d1e1f 202122232425262728292a2b2c2d2e2f30313233343536379a44263963f66c092b622ae48c8ac58eb3e97116f2828e8576041b08240e624d3681b17b9b8d463314a91524a1fb0dca
sum ade7355700dda5adea895094bb2f1f074c93a8ac79a1c47e926b78763c053fda
`
	othersU = `casket ring 1
id 000102030405060708090a0b0c0d0e0f
slots 2
slot 2 101112131415161718191a1b1c1d1e1f 202122232425262728292a2b2c2d2e2f30313233343536379a44263963f66c092b622ae48c8ac58eb3e97116f2828e8576041b08240e624d3681b17b9b8d463314a91524a1fb0dca
slot 3 808182838485868788898a8b8c8d8e8f 909192939495969798999a9b9c9d9e9fa0a1a2a3a4a5a6a789b553732323e161fcd1032d2e2fedfb7a7effa7f86e4f2482d5ced1719fa616a5e898cfb3fd73c2871cabe90ceffabe
sum bc24af080d71b79d512d5217d31abb2f1488dc819c7830aac513a7bfed5b3b3a
`
	othersChanged = `casket ring 1
id 000102030405060708090a0b0c0d0e0f
slots 2
slot 1 808182838485868788898a8b8c8d8e8f 909192939495969798999a9b9c9d9e9fa0a1a2a3a4a5a6a70f8a0bf8b83d735c980bf37085e7d0d4568c2f9ede3c5c1058cd48f9cf9477a18ad318a1e5790441324d46fbad3d0ecb
slot 3 808182838485868788898a8b8c8d8e8f 909192939495969798999a9b9c9d9e9fa0a1a2a3a4a5a6a789b553732323e161fcd1032d2e2fedfb7a7effa7f86e4f2482d5ced1719fa616a5e898cfb3fd73c2871cabe90ceffabe
sum d6b6c4c7b05240608cf9892a9e8e04def866cea1936e8068e3ae927983da2764
`
	othersSlow = `casket ring 1
id fffefdfcfbfaf9f8f7f6f5f4f3f2f1f0
slots 1
slot 4096 efeeedecebeae9e8e7e6e5e4e3e2e1e0 dfdedddcdbdad9d8d7d6d5d4d3d2d1d0cfcecdcccbcac9c8177b6e5355946e52b0f38e9e01e1e8c8ae4a7693de73bb4f106b57bb177edf2fac5643ee996ad8c2eae391169a3e6e76
sum a61f2585ae03b61e335a6ef769daaf0dbdefd49a3cf3380eae197941e39a56fc
`
)

// othersKey is the master key of othersSlow, and falling its coins; its passphrase is all bytes, rising.
func othersKey() string {
	b := make([]byte, 32)
	for i := range b {
		b[i] = byte(i*37 + 11)
	}
	return string(b)
}

func falling(from, n int) string {
	b := make([]byte, n)
	for i := range b {
		b[i] = byte(from - i)
	}
	return string(b)
}

func TestTextsThatOthersMake(t *testing.T) {
	wantText(t, "T", textT(t), othersT)
	wantText(t, "U", textU(t), othersU)
	wantText(t, "changed", mustChange(t, othersU, "oats", "barley", 1, c40()), othersChanged)
	wantText(t, "slow", mustMake(t, othersKey(), rising(0, 256), 4096, falling(255, 56)), othersSlow)
	wantOpens(t, othersT, "oats", master, 0)
	wantOpens(t, othersU, "rye", master, 1)
	wantOpens(t, othersChanged, "barley", master, 0)
	wantOpens(t, othersSlow, rising(0, 256), othersKey(), 0)
}

// P7.1

// oddTexts are what may be handed in as a text, or as a passphrase.
func oddTexts(t *testing.T) []string {
	u := textU(t)
	return []string{"", "\n", " ", "\x00", "\xff\xfe", "casket ring 1", "casket ring 1\n", "casket ring 1\nid ", "casket ring 1\nid \nslots 9999\n",
		"casket ring 1\nid \nslots 0\nsum ", u, u[:len(u)/2], u + u, strings.Repeat("\n", 1000), strings.Repeat("0", 100000), "sum " + plainSum(""), "oats", strings.Repeat("o", 257)}
}

func TestEveryCallEnds(t *testing.T) {
	odd := oddTexts(t)
	ints := []int{math.MinInt, -1, 0, 1, 2, 4097, math.MaxInt}
	for _, a := range odd {
		Parse(a)
		for _, b := range odd {
			Unlock(a, b)
			for _, n := range ints {
				Drop(a, b, n)
				Make(a, b, n, a)
				Make(master, a, n, b)
				for _, c := range []string{"", "x", c40(), a} {
					Add(a, b, "next", n, c)
					Add(a, "oats", b, n, c)
					Change(a, b, "next", n, c)
					Change(a, "oats", b, n, c)
				}
			}
		}
	}
	for _, n := range ints {
		for _, s := range odd {
			Print(api.Ring{Id: s, Slots: []api.RingSlot{{Salt: s, Rounds: n, Wrapped: s}}})
		}
	}
}

func TestLongTextsEnd(t *testing.T) {
	long := strings.Repeat("ab", 1<<20)
	wantParse(t, "a long line", long, api.ErrForm)
	wantParse(t, "a long id that does not end", "casket ring 1\nid "+long, api.ErrForm)
	wantParse(t, "a long id", summed("casket ring 1\nid "+long+"\nslots 0\n"), api.ErrField)
	wantParse(t, "a long number", "casket ring 1\nid \nslots "+strings.Repeat("1", 1<<20)+"\n", api.ErrForm)
	wantParse(t, "a long sum", strings.Replace(othersT, "sum ", "sum "+long, 1), api.ErrCheck)
	wantParse(t, "much behind it", othersT+long, api.ErrForm)
}

func TestAnswersHangOnArgumentsAlone(t *testing.T) {
	var all sync.WaitGroup
	for i := range 8 {
		all.Add(1)
		go func() {
			defer all.Done()
			for range 5 {
				if s, _ := Add(othersT, "oats", "rye", 3, c40()); s != othersU {
					t.Errorf("Add, the run %d: %q", i, s)
				}
				if s, _ := Change(othersU, "oats", "barley", 1, c40()); s != othersChanged {
					t.Errorf("Change, the run %d: %q", i, s)
				}
				if _, e := Parse("no ring"); e != api.ErrForm {
					t.Errorf("Parse, the run %d: %d", i, e)
				}
			}
		}()
	}
	all.Wait()
}

func TestSlotsOfAnAnswerAreNewMemory(t *testing.T) {
	a, b := mustParse(t, othersU), mustParse(t, othersU)
	for i := range a.Slots {
		a.Slots[i] = api.RingSlot{}
	}
	for i := range a.Slots[:cap(a.Slots)] {
		a.Slots[:cap(a.Slots)][i].Rounds = 77
	}
	_ = append(a.Slots, api.RingSlot{Rounds: 9})
	wantText(t, "another answer", mustPrint(t, b), othersU)
	wantText(t, "an answer behind it", mustPrint(t, mustParse(t, othersU)), othersU)
}

func TestWhatIsHandedInIsLeftAsItIs(t *testing.T) {
	r := ringOf(t, 8)
	before := slices.Clone(r.Slots)
	for n := range 9 {
		Print(api.Ring{Id: r.Id, Slots: r.Slots[:n]})
		Print(api.Ring{Id: "short", Slots: r.Slots[:n]})
		if !slices.Equal(r.Slots, before) {
			t.Fatalf("Print of %d slots wrote into the list", n)
		}
	}
}

func TestNoSlotsMayBeNilOrEmpty(t *testing.T) {
	for _, slots := range [][]api.RingSlot{nil, {}, make([]api.RingSlot, 0, 9)} {
		s, e := Print(api.Ring{Id: rising(0, 16), Slots: slots})
		wantCode(t, "Print of no slots", s, e, api.ErrField)
	}
}

// P7.2

func TestPrint(t *testing.T) {
	for n := 1; n <= 8; n++ {
		r := ringOf(t, n)
		wantText(t, "Print", mustPrint(t, r), plainText(r))
	}
	for _, rounds := range []int{1, 9, 10, 99, 100, 999, 1000, 4095, 4096} {
		r := api.Ring{Id: somewhat(16), Slots: []api.RingSlot{{Salt: somewhat(16), Rounds: rounds, Wrapped: somewhat(72)}}}
		wantText(t, "Print", mustPrint(t, r), plainText(r))
	}
	for _, fill := range []string{"\x00", "\xff", "\n", " "} {
		r := api.Ring{Id: strings.Repeat(fill, 16), Slots: []api.RingSlot{{Salt: strings.Repeat(fill, 16), Rounds: 1, Wrapped: strings.Repeat(fill, 72)}}}
		wantText(t, "Print", mustPrint(t, r), plainText(r))
	}
}

// spoilt are rings of three slots with one fault each, in each of the slots.
func spoilt(t *testing.T) map[string]api.Ring {
	out := map[string]api.Ring{"a zero struct": {}, "no slots": ringOf(t, 0), "nine slots": ringOf(t, 9), "many slots": {Id: rising(0, 16), Slots: slices.Repeat(ringOf(t, 1).Slots, 300)}}
	with := func(name string, change func(*api.Ring)) {
		r := copyOf(ringOf(t, 3))
		change(&r)
		out[name] = r
	}
	for _, n := range []int{0, 1, 15, 17, 32, 1000} {
		with(fmt.Sprintf("an id of %d bytes", n), func(r *api.Ring) { r.Id = somewhat(n) })
	}
	for i := range 3 {
		for _, n := range []int{0, 15, 17, 32} {
			with(fmt.Sprintf("slot %d, a salt of %d bytes", i, n), func(r *api.Ring) { r.Slots[i].Salt = somewhat(n) })
		}
		for _, n := range []int{0, 24, 48, 71, 73, 144} {
			with(fmt.Sprintf("slot %d, wrapped of %d bytes", i, n), func(r *api.Ring) { r.Slots[i].Wrapped = somewhat(n) })
		}
		for _, n := range []int{math.MinInt, -1, 0, 4097, 9999, 1<<32 + 1, math.MaxInt} {
			with(fmt.Sprintf("slot %d, %d rounds", i, n), func(r *api.Ring) { r.Slots[i].Rounds = n })
		}
	}
	return out
}

func TestPrintRefusesWhatIsNoRing(t *testing.T) {
	for name, r := range spoilt(t) {
		s, e := Print(r)
		wantCode(t, "Print, "+name, s, e, api.ErrField)
	}
}

// P7.3

func TestParse(t *testing.T) {
	for n := 1; n <= 8; n++ {
		r := ringOf(t, n)
		if got := mustParse(t, plainText(r)); !sameRing(got, r) {
			t.Errorf("Parse of %d slots: %+v, want %+v", n, got, r)
		}
	}
}

func TestParseRefusesWhatIsNoRing(t *testing.T) {
	for name, r := range spoilt(t) {
		want := api.ErrField
		for _, s := range r.Slots {
			if s.Rounds < 0 || s.Rounds > 9999 {
				want = api.ErrForm
			}
		}
		wantParse(t, name, plainText(r), want)
	}
	for n, want := range map[int]api.Errno{9: api.ErrField, 10: api.ErrField, 99: api.ErrField, 100: api.ErrField, 999: api.ErrField, 1000: api.ErrField, 9999: api.ErrField, 10000: api.ErrForm} {
		wantParse(t, fmt.Sprintf("%d slots", n), summed(fmt.Sprintf("casket ring 1\nid %x\nslots %d\n", rising(0, 16), n)+strings.Repeat(fmt.Sprintf("slot 1 %x %x\n", rising(0, 16), rising(0, 72)), n)), want)
	}
}

// TestFormAheadOfSumAheadOfFields: each text has all faults behind the one that is told.
func TestFormAheadOfSumAheadOfFields(t *testing.T) {
	nothing := "casket ring 1\nid \nslots 0\n"
	for name, c := range map[string]struct {
		text string
		want api.Errno
	}{
		"all empty, summed":             {summed(nothing), api.ErrField},
		"all empty, no sum":             {nothing + "sum \n", api.ErrCheck},
		"all empty, a sum too short":    {nothing + "sum " + plainSum(nothing)[:62] + "\n", api.ErrCheck},
		"all empty, a sum too long":     {nothing + "sum " + plainSum(nothing) + "00\n", api.ErrCheck},
		"all empty, another sum":        {nothing + "sum " + plainSum("") + "\n", api.ErrCheck},
		"all empty, an odd sum":         {nothing + "sum " + plainSum(nothing)[:63] + "\n", api.ErrForm},
		"all empty, sum of the sum too": {nothing + "sum " + plainSum(nothing+"sum ") + "\n", api.ErrCheck},
		"empty fields of a slot":        {summed("casket ring 1\nid \nslots 1\nslot 0  \n"), api.ErrField},
		"no sum of a slot":              {"casket ring 1\nid \nslots 1\nslot 0  \nsum \n", api.ErrCheck},
		"a line feed missing, no sum":   {"casket ring 1\nid \nslots 1\nslot 0  \nsum ", api.ErrForm},
		"more behind it, another sum":   {nothing + "sum \n\n", api.ErrForm},
		"a ring, another sum":           {strings.Replace(othersT, "sum a", "sum b", 1), api.ErrCheck},
		"a ring, no sum":                {othersT[:len(othersT)-65] + "\n", api.ErrCheck},
		"a ring of no slots":            {summed("casket ring 1\nid 000102030405060708090a0b0c0d0e0f\nslots 0\n"), api.ErrField},
	} {
		wantParse(t, name, c.text, c.want)
	}
}

// TestFormOfEveryLine: each of these texts has its sum right, so that the form alone is wrong, if it is.
func TestFormOfEveryLine(t *testing.T) {
	swap := func(old, with string) string {
		if !strings.Contains(othersT, old) {
			t.Fatalf("no %q in T", old)
		}
		return resummed(strings.Replace(othersT, old, with, 1))
	}
	slotLine := strings.SplitAfter(othersT, "\n")[3]
	for _, c := range []struct{ old, with string }{
		{"casket ring 1\n", ""}, {"casket ring 1\n", "casket ring 1 \n"}, {"casket ring 1\n", "casket ring 1\r\n"}, {"casket ring 1\n", "casket ring 2\n"},
		{"casket ring 1\n", "casket ring 01\n"}, {"casket ring 1\n", "casket  ring 1\n"}, {"casket ring 1\n", "\ncasket ring 1\n"}, {"casket ring 1\n", " casket ring 1\n"},
		{"casket ring 1\n", "Casket ring 1\n"}, {"casket ring 1\n", "casket ring 1 id "}, {"casket ring 1\n", "casket ring 1\ncasket ring 1\n"},
		{"id 00", "id  00"}, {"id 00", "id\t00"}, {"id 00", "id00"}, {"id 00", "id 0"}, {"id 00", "id 000"}, {"id 00", "ID 00"}, {"id 00", "i 00"}, {"id 00", "id 0g"}, {"id 00", "id 0x"}, {"id 00", "id -0"},
		{"0e0f\n", "0e0F\n"}, {"0e0f\n", "0E0f\n"}, {"0e0f\n", "0e0f \n"}, {"0e0f\n", "0e0f\n\n"}, {"0e0f\n", "0e0f\r\n"}, {"0e0f\n", "0e0f "}, {"0e0f\n", "0e0f"}, {"0e0f\n", "0e0f\x00\n"},
		{"slots 1\n", ""}, {"slots 1\n", "slots\n"}, {"slots 1\n", "slots \n"}, {"slots 1\n", "slots 01\n"}, {"slots 1\n", "slots 0001\n"}, {"slots 1\n", "slots 00001\n"}, {"slots 1\n", "slots +1\n"},
		{"slots 1\n", "slots -1\n"}, {"slots 1\n", "slots 0\n"}, {"slots 1\n", "slots 2\n"}, {"slots 1\n", "slots 9999\n"}, {"slots 1\n", "slots 10001\n"}, {"slots 1\n", "slots 1 \n"}, {"slots 1\n", "slots  1\n"},
		{"slots 1\n", "slots 1.0\n"}, {"slots 1\n", "slots one\n"}, {"slots 1\n", "slots a\n"}, {"slots 1\n", "slots 1a\n"}, {"slots 1\n", "slots :\n"}, {"slots 1\n", "slots /\n"}, {"slots 1\n", "slots \xd9\xa1\n"},
		{"slots 1\n", "slots 00\n"}, {"slots 1\n", "slots 4294967297\n"}, {"slots 1\n", "slots 18446744073709551617\n"}, {"slots 1\n", "slot 1\n"},
		{"slot 2 ", "slot 02 "}, {"slot 2 ", "slot  2 "}, {"slot 2 ", "slot 2  "}, {"slot 2 ", "slot  "}, {"slot 2 ", "slot "}, {"slot 2 ", "slots 2 "}, {"slot 2 ", "slot +2 "}, {"slot 2 ", "slot -2 "},
		{"slot 2 ", "slot 2\n"}, {"slot 2 ", "slot 2\t"}, {"slot 2 ", "slot 12345 "}, {"slot 2 ", "slot 0002 "}, {"slot 2 ", "slot 2x "}, {"slot 2 ", "slot x "}, {"slot 2 ", " slot 2 "}, {"slot 2 ", "Slot 2 "}, {"slot 2 ", "slot 00 "}, {"slot 2 ", "slot : "}, {"slot 2 ", "slot / "}, {"slot 2 ", "slot 1: "}, {"slot 2 ", "slot 1/ "}, {"slot 2 ", "slot \xb2 "},
		{"1e1f 2021", "1e1f  2021"}, {"1e1f 2021", "1e1f2021"}, {"1e1f 2021", "1e1f\n2021"}, {"1e1f 2021", "1e1f 021"}, {"1e1f 2021", "1e1 2021"}, {"1e1f 2021", "1e1F 2021"}, {"1e1f 2021", "1e1f 202G"},
		{"0dca\n", "0dca \n"}, {"0dca\n", "0dca\n\n"}, {"0dca\n", "0dca 00\n"}, {"0dca\n", "0dcA\n"}, {"0dca\n", "0dc\n"}, {"0dca\n", "0dca "},
		{slotLine, ""}, {slotLine, slotLine + slotLine}, {slotLine, slotLine[5:]},
	} {
		text := swap(c.old, c.with)
		wantParse(t, fmt.Sprintf("%q for %q", c.with, c.old), text, api.ErrForm)
	}
	for _, c := range []struct{ old, with string }{
		{"id 00", "id "}, {"id 00", "id 0000"}, {"slot 2 ", "slot 0 "}, {"slot 2 ", "slot 4097 "}, {"slot 2 ", "slot 9999 "}, {"1e1f 2021", "1e1f 21"}, {"1e1f 2021", "1e1f1f 2021"},
	} {
		wantParse(t, fmt.Sprintf("%q for %q", c.with, c.old), swap(c.old, c.with), api.ErrField)
	}
	for _, c := range []struct{ old, with string }{
		{"id 00", "id ff"}, {"slot 2 ", "slot 1 "}, {"slot 2 ", "slot 4096 "}, {"slot 2 ", "slot 10 "}, {"slot 2 ", "slot 1000 "}, {"1e1f 2021", "aaff 0921"},
	} {
		wantParse(t, fmt.Sprintf("%q for %q", c.with, c.old), swap(c.old, c.with), api.OK)
	}
	for _, sumLine := range []string{"", "sum", "sum \n ", "sum  \n", "sum\n", "Sum \n", "sum 0\n", "sum A0\n", "sum 0a", "sum 0a \n", "sum 0a\r\n", "sum 0a\n\x00", "sum 0a\nsum 0a\n", "\nsum 0a\n", " sum 0a\n", "sum 0a 0b\n"} {
		wantParse(t, fmt.Sprintf("a last line %q", sumLine), othersT[:strings.Index(othersT, "sum ")]+sumLine, api.ErrForm)
	}
}

func TestParseExamples(t *testing.T) {
	for name, c := range map[string]struct {
		text string
		want api.Errno
	}{
		"a digit of the id":   {strings.Replace(othersT, "id 0", "id 1", 1), api.ErrCheck},
		"no line feed":        {strings.TrimSuffix(othersT, "\n"), api.ErrForm},
		"a blank doubled":     {strings.Replace(othersT, "slot 2", "slot  2", 1), api.ErrForm},
		"slots 2":             {strings.Replace(othersT, "slots 1", "slots 2", 1), api.ErrForm},
		"slots 01":            {strings.Replace(othersT, "slots 1", "slots 01", 1), api.ErrForm},
		"capital digits":      {strings.Replace(othersT, "0a0b", "0A0B", 1), api.ErrForm},
		"slot 0, summed":      {resummed(strings.Replace(othersT, "slot 2", "slot 0", 1)), api.ErrField},
		"slot 4097, summed":   {resummed(strings.Replace(othersT, "slot 2", "slot 4097", 1)), api.ErrField},
		"slot 4097, as it is": {strings.Replace(othersT, "slot 2", "slot 4097", 1), api.ErrCheck},
	} {
		wantParse(t, name, c.text, c.want)
	}
}

// P7.4

func TestMake(t *testing.T) {
	for _, rounds := range []int{1, 2, 3, 255, 256, 257, 4095, 4096} {
		for _, pass := range []string{"o", "\x00", "oats", strings.Repeat("o", 255), strings.Repeat("o", 256), "\n \xff"} {
			coins := somewhat(56 + rounds)[rounds:]
			want := plainText(api.Ring{Id: coins[:16], Slots: []api.RingSlot{plainSlot(t, coins[:16], somewhat(32), pass, rounds, coins[16:])}})
			got := mustMake(t, somewhat(32), pass, rounds, coins)
			wantText(t, "Make", got, want)
			wantOpens(t, got, pass, somewhat(32), 0)
		}
	}
}

func passFault(passes ...string) api.Errno {
	for _, p := range passes {
		if len(p) < 1 || len(p) > 256 {
			return api.ErrArg
		}
	}
	return api.OK
}

func roundsFault(rounds int) api.Errno {
	if rounds < 1 || rounds > 4096 {
		return api.ErrRounds
	}
	return api.OK
}

func coinsFault(coins string, want int) api.Errno {
	if len(coins) != want {
		return api.ErrCoins
	}
	return api.OK
}

// first is the fault that is told where several apply.
func first(faults ...api.Errno) api.Errno {
	for _, e := range faults {
		if e != api.OK {
			return e
		}
	}
	return api.OK
}

func somePasses() []string { return []string{"", "oats", "rye", strings.Repeat("o", 257)} }

func someRounds() []int { return []int{math.MinInt, -1, 0, 1, 4097, 1<<32 + 1, math.MaxInt} }

func someCoins() []string {
	return []string{"", somewhat(16), somewhat(39), somewhat(40), somewhat(41), somewhat(55), somewhat(56), somewhat(57), somewhat(1000)}
}

func TestMakeTellsTheFirstFault(t *testing.T) {
	for _, n := range []int{0, 1, 31, 32, 33, 64} {
		for _, pass := range somePasses() {
			for _, rounds := range someRounds() {
				for _, coins := range someCoins() {
					want := first(passFault(pass), roundsFault(rounds), coinsFault(coins, 56))
					if n != 32 {
						want = api.ErrKey
					}
					s, e := Make(somewhat(n), pass, rounds, coins)
					wantCode(t, fmt.Sprintf("Make(%d bytes, %.5q, %d, %d coins)", n, pass, rounds, len(coins)), s, e, want)
				}
			}
		}
	}
}

// P7.5

func TestUnlockExamples(t *testing.T) {
	wantOpens(t, textT(t), "oats", master, 0)
	for _, pass := range []string{"oat", "oats\x00", "oatsoats", "Oats", " oats", "oats\n", "\x00", "m", strings.Repeat("o", 256)} {
		wantShut(t, textT(t), pass, api.ErrPass)
	}
	wantShut(t, textT(t), "", api.ErrArg)
	wantShut(t, textT(t), strings.Repeat("o", 257), api.ErrArg)
}

// TestPassphrasesThatAKeyedSumTakesForOne: a long one and its sum, a short one and the same with zeros behind it.
func TestPassphrasesThatAKeyedSumTakesForOne(t *testing.T) {
	long := strings.Repeat("oats", 30)
	sum := sha256.Sum256([]byte(long))
	wantShut(t, mustMake(t, master, long, 1, c56()), string(sum[:]), api.ErrPass)
	wantShut(t, mustMake(t, master, string(sum[:]), 1, c56()), long, api.ErrPass)
	wantShut(t, mustMake(t, master, "oats\x00", 1, c56()), "oats", api.ErrPass)
	for n := 2; n < 66; n++ {
		wantShut(t, othersT, "oats"+strings.Repeat("\x00", n), api.ErrPass)
	}
}

// unlike is a ring whose slots hold unlike master keys: the first and the last under "x", those between under "y".
func unlike(t *testing.T) api.Ring {
	t.Helper()
	r := api.Ring{Id: somewhat(16)}
	for i, pass := range []string{"x", "y", "y", "x"} {
		r.Slots = append(r.Slots, plainSlot(t, r.Id, rising(50*i, 32), pass, 4-i, rising(i, 40)))
	}
	return r
}

func TestTheFirstSlotThatOpensCounts(t *testing.T) {
	r := unlike(t)
	wantOpens(t, plainText(r), "x", rising(0, 32), 0)
	wantOpens(t, plainText(r), "y", rising(50, 32), 1)
	r.Slots = r.Slots[2:]
	wantOpens(t, plainText(r), "x", rising(150, 32), 1)
	wantOpens(t, plainText(r), "y", rising(100, 32), 0)
}

func TestEverySlotOpens(t *testing.T) {
	for n := 1; n <= 8; n++ {
		text := plainText(ringOf(t, n))
		for i := range n {
			wantOpens(t, text, fmt.Sprintf("p%d", i), master, i)
		}
		wantShut(t, text, fmt.Sprintf("p%d", n), api.ErrPass)
	}
}

// TestASlotIsOfItsRing: a slot opens with its own id, salt, rounds and wrapped bytes alone.
func TestASlotIsOfItsRing(t *testing.T) {
	for bit := range 8 {
		for at := range 16 {
			r := mustParse(t, othersT)
			r.Id = turned(r.Id, at, bit)
			wantShut(t, mustPrint(t, r), "oats", api.ErrPass)
			r = mustParse(t, othersT)
			r.Slots[0].Salt = turned(r.Slots[0].Salt, at, bit)
			wantShut(t, mustPrint(t, r), "oats", api.ErrPass)
		}
		for at := range 72 {
			r := mustParse(t, othersT)
			r.Slots[0].Wrapped = turned(r.Slots[0].Wrapped, at, bit)
			wantShut(t, mustPrint(t, r), "oats", api.ErrPass)
		}
	}
	for _, rounds := range []int{1, 3, 4, 258, 4096} {
		r := mustParse(t, othersT)
		r.Slots[0].Rounds = rounds
		wantShut(t, mustPrint(t, r), "oats", api.ErrPass)
	}
}

func turned(text string, place, bit int) string {
	b := []byte(text)
	b[place] ^= 1 << bit
	return string(b)
}

// TestTheAadIsTheDocuments: boxes with an aad that lacks a part, or has the parts otherwise, do not open.
func TestTheAadIsTheDocuments(t *testing.T) {
	id, salt, nonce := somewhat(16), rising(3, 16), rising(90, 24)
	key := plainSlotKey(t, "oats", salt, 258)
	for aad, opens := range map[string]bool{
		"casket ring" + id + salt + "\x00\x00\x01\x02":     true,
		"casket ring" + id + salt + "\x02\x01\x00\x00":     false,
		"casket ring" + salt + id + "\x00\x00\x01\x02":     false,
		"casket ring" + id + salt:                          false,
		"casket ring" + id + "\x00\x00\x01\x02":            false,
		"casket ring" + salt + "\x00\x00\x01\x02":          false,
		id + salt + "\x00\x00\x01\x02":                     false,
		"casket ring\x00" + id + salt + "\x00\x00\x01\x02": false,
		"": false,
	} {
		box, e := aead.Seal(key, nonce, aad, master)
		if e != api.OK {
			t.Fatalf("Seal: %d", e)
		}
		text := plainText(api.Ring{Id: id, Slots: []api.RingSlot{{Salt: salt, Rounds: 258, Wrapped: nonce + box}}})
		if opens {
			wantOpens(t, text, "oats", master, 0)
		} else {
			wantShut(t, text, "oats", api.ErrPass)
		}
	}
}

// someText is a text, what Parse says of it, and how many slots it has.
type someText struct {
	text  string
	fault api.Errno
	slots int
}

// someTexts open under "oats", if they are rings.
func someTexts(t *testing.T) []someText {
	full := api.Ring{Id: rising(9, 16)}
	for i := range 8 {
		full.Slots = append(full.Slots, plainSlot(t, full.Id, master, "oats", 1, rising(i, 40)))
	}
	return []someText{
		{"", api.ErrForm, 0}, {othersT + "\n", api.ErrForm, 0}, {strings.Replace(othersT, "id 0", "id 1", 1), api.ErrCheck, 0},
		{resummed(strings.Replace(othersT, "slot 2", "slot 0", 1)), api.ErrField, 0}, {othersT, api.OK, 1},
		{plainText(api.Ring{Id: full.Id, Slots: full.Slots[:2]}), api.OK, 2}, {plainText(api.Ring{Id: full.Id, Slots: full.Slots[:7]}), api.OK, 7}, {plainText(full), api.OK, 8},
	}
}

// openFault: all of someTexts open under "oats" alone.
func openFault(pass string) api.Errno {
	if pass != "oats" {
		return api.ErrPass
	}
	return api.OK
}

func TestUnlockTellsTheFirstFault(t *testing.T) {
	for _, c := range someTexts(t) {
		for _, pass := range somePasses() {
			m, i, e := Unlock(c.text, pass)
			if want := first(c.fault, passFault(pass), openFault(pass)); e != want || (m == "") != (e != api.OK) || i != 0 {
				t.Errorf("Unlock(%.20q, %.5q): %x, %d, %d, want %d", c.text, pass, m, i, e, want)
			}
		}
	}
}

// P7.6 and P7.7

func TestAddAndChangeTellTheFirstFault(t *testing.T) {
	for _, c := range someTexts(t) {
		for _, pass := range somePasses() {
			for _, next := range somePasses() {
				for _, rounds := range someRounds() {
					for _, coins := range someCoins() {
						both := first(c.fault, passFault(pass, next), roundsFault(rounds), coinsFault(coins, 40), openFault(pass))
						what := fmt.Sprintf("(%d slots, %.5q, %.5q, %d, %d coins)", c.slots, pass, next, rounds, len(coins))
						s, e := Change(c.text, pass, next, rounds, coins)
						wantCode(t, "Change"+what, s, e, both)
						full := api.OK
						if c.slots == 8 {
							full = api.ErrSlots
						}
						s, e = Add(c.text, pass, next, rounds, coins)
						wantCode(t, "Add"+what, s, e, first(both, full))
					}
				}
			}
		}
	}
}

func TestAdd(t *testing.T) {
	r := api.Ring{Id: c56()[:16], Slots: []api.RingSlot{plainSlot(t, c56()[:16], master, "oats", 2, c56()[16:])}}
	text := textT(t)
	for i := 1; i < 8; i++ {
		pass, coins := fmt.Sprintf("p%d", i), rising(30*i, 40)
		under := "oats"
		if i > 1 {
			under = fmt.Sprintf("p%d", i-1)
		}
		r.Slots = append(r.Slots, plainSlot(t, r.Id, master, pass, 17*i, coins))
		text = mustAdd(t, text, under, pass, 17*i, coins)
		wantText(t, "Add", text, plainText(r))
		wantOpens(t, text, pass, master, i)
		wantOpens(t, text, "oats", master, 0)
	}
	s, e := Add(text, "p3", "x", 1, c40())
	wantCode(t, "Add to a full ring", s, e, api.ErrSlots)
	s, e = Add(text, "no", "x", 1, c40())
	wantCode(t, "Add to a full ring that does not open", s, e, api.ErrPass)
	wantText(t, "with a slot dropped", mustAdd(t, mustDrop(t, text, "p3", 7), "p3", "p7", 17*7, rising(30*7, 40)), text)
}

func TestAddOfAPassphraseThatIsThere(t *testing.T) {
	again := mustAdd(t, textU(t), "rye", "oats", 1, c40())
	wantOpens(t, again, "oats", master, 0)
	if n := len(mustParse(t, again).Slots); n != 3 {
		t.Errorf("%d slots, want 3", n)
	}
	wantOpens(t, mustDrop(t, again, "rye", 0), "oats", master, 1)
	same := mustAdd(t, textT(t), "oats", "oats", 2, c40())
	wantOpens(t, mustDrop(t, same, "oats", 0), "oats", master, 0)
}

func TestAddTakesTheKeyOfTheSlotThatOpens(t *testing.T) {
	r := unlike(t)
	want := copyOf(r)
	want.Slots = append(want.Slots, plainSlot(t, r.Id, rising(50, 32), "z", 7, c40()))
	text := mustAdd(t, plainText(r), "y", "z", 7, c40())
	wantText(t, "Add", text, plainText(want))
	wantOpens(t, text, "z", rising(50, 32), 4)
}

func TestChange(t *testing.T) {
	r := ringOf(t, 8)
	for i := range r.Slots {
		want := copyOf(r)
		want.Slots[i] = plainSlot(t, r.Id, master, "barley", 300, c40())
		text := mustChange(t, plainText(r), fmt.Sprintf("p%d", i), "barley", 300, c40())
		wantText(t, "Change", text, plainText(want))
		wantShut(t, text, fmt.Sprintf("p%d", i), api.ErrPass)
		wantOpens(t, text, "barley", master, i)
	}
}

func TestChangeReplacesTheFirstSlotThatOpens(t *testing.T) {
	r := unlike(t)
	want := copyOf(r)
	want.Slots[1] = plainSlot(t, r.Id, rising(50, 32), "z", 7, c40())
	text := mustChange(t, plainText(r), "y", "z", 7, c40())
	wantText(t, "Change", text, plainText(want))
	wantOpens(t, text, "y", rising(100, 32), 2)
	wantOpens(t, mustChange(t, text, "x", "x", 1, c40()), "x", rising(0, 32), 0)
}

func TestChangeExamples(t *testing.T) {
	text := mustChange(t, textU(t), "oats", "barley", 1, c40())
	wantShut(t, text, "oats", api.ErrPass)
	wantOpens(t, text, "barley", master, 0)
	wantOpens(t, text, "rye", master, 1)
	if a, b := mustParse(t, text), mustParse(t, textU(t)); a.Slots[1] != b.Slots[1] || a.Slots[0] == b.Slots[0] || a.Id != b.Id {
		t.Errorf("slot 0 alone is to be another one: %+v, %+v", a, b)
	}
}

// P7.8

func TestDrop(t *testing.T) {
	for n := 2; n <= 8; n++ {
		r := ringOf(t, n)
		for under := range n {
			for i := range n {
				want := api.Ring{Id: r.Id, Slots: slices.Concat(r.Slots[:i], r.Slots[i+1:])}
				wantText(t, "Drop", mustDrop(t, plainText(r), fmt.Sprintf("p%d", under), i), plainText(want))
			}
		}
	}
}

func TestDropTellsTheFirstFault(t *testing.T) {
	for _, c := range someTexts(t) {
		for _, pass := range somePasses() {
			for _, slot := range []int{math.MinInt, -2, -1, 0, 1, 2, 6, 7, 8, 9, 1 << 32, math.MaxInt} {
				number, last := api.OK, api.OK
				if slot < 0 || slot >= c.slots {
					number = api.ErrSlot
				}
				if c.slots == 1 {
					last = api.ErrLast
				}
				s, e := Drop(c.text, pass, slot)
				wantCode(t, fmt.Sprintf("Drop(%d slots, %.5q, %d)", c.slots, pass, slot), s, e, first(c.fault, passFault(pass), openFault(pass), number, last))
			}
		}
	}
}

func TestDropExamples(t *testing.T) {
	text := mustDrop(t, textU(t), "oats", 0)
	wantShut(t, text, "oats", api.ErrPass)
	wantOpens(t, text, "rye", master, 0)
	wantText(t, "the other slot dropped", mustDrop(t, textU(t), "oats", 1), textT(t))
}

// P7.9

func TestWhatIsTakenIsWhatIsPrinted(t *testing.T) {
	for n := 1; n <= 8; n++ {
		r := ringOf(t, n)
		text := mustPrint(t, r)
		if got := mustParse(t, text); !sameRing(got, r) {
			t.Errorf("%d slots: read back as %+v", n, got)
		}
		wantText(t, "printed again", mustPrint(t, mustParse(t, text)), text)
	}
}

func TestNoTextThatDiffersIsTaken(t *testing.T) {
	refused := func(text string) {
		t.Helper()
		if r, e := Parse(text); e == api.OK || !isZero(r) {
			t.Errorf("%q is taken", text)
		}
	}
	for at := range len(othersU) {
		for c := range 256 {
			if byte(c) != othersU[at] {
				refused(othersU[:at] + string([]byte{byte(c)}) + othersU[at+1:])
			}
		}
		refused(othersU[:at])
		refused(othersU[at+1:])
		refused(othersU[:at] + othersU[at+1:])
		for _, c := range []string{" ", "\n", "0", "1", "a", "\x00"} {
			refused(othersU[:at] + c + othersU[at:])
		}
	}
	for c := range 256 {
		refused(othersU + string([]byte{byte(c)}))
	}
	refused(othersU + othersU)
}

// life is a ring as a list of what its slots were made for, beside its text.
type life struct {
	text   string
	passes []string
}

func (l life) first(pass string) int { return slices.Index(l.passes, pass) }

// TestALongLife adds, changes and drops, and looks at every slot behind each step.
func TestALongLife(t *testing.T) {
	const words = "abcdefghijkl"
	for seed := range int64(4) {
		draw := rand.New(rand.NewSource(seed))
		l := life{mustMake(t, somewhat(32), "a", 1, somewhat(56)), []string{"a"}}
		for step := range 150 {
			before := mustParse(t, l.text)
			pass, next := words[draw.Intn(len(words)):][:1], words[draw.Intn(len(words)):][:1]
			coins := somewhat(40 + step)[step:]
			opens := l.first(pass)
			slot, what := draw.Intn(9), draw.Intn(3)
			want := l.passes
			var kept []api.RingSlot // those of which the call does not speak
			var text string
			var e api.Errno
			switch what {
			case 0:
				text, e = Add(l.text, pass, next, 1+step%3, coins)
				kept, want = before.Slots, append(slices.Clone(l.passes), next)
			case 1:
				text, e = Change(l.text, pass, next, 1+step%3, coins)
				if opens >= 0 {
					kept = slices.Delete(slices.Clone(before.Slots), opens, opens+1)
					want = slices.Clone(l.passes)
					want[opens] = next
				}
			case 2:
				text, e = Drop(l.text, pass, slot)
				if slot < len(l.passes) {
					kept = slices.Delete(slices.Clone(before.Slots), slot, slot+1)
					want = slices.Delete(slices.Clone(l.passes), slot, slot+1)
				}
			}
			wantCode(t, fmt.Sprintf("step %d", step), text, e, lifeFault(what, opens, slot, len(l.passes)))
			if e != api.OK {
				continue
			}
			l = life{text, want}
			l.look(t, before.Id, kept, words)
		}
	}
}

func lifeFault(what, opens, slot, slots int) api.Errno {
	switch {
	case opens < 0:
		return api.ErrPass
	case what == 0 && slots == 8:
		return api.ErrSlots
	case what == 2 && slot >= slots:
		return api.ErrSlot
	case what == 2 && slots == 1:
		return api.ErrLast
	}
	return api.OK
}

func (l life) look(t *testing.T, id string, kept []api.RingSlot, words string) {
	t.Helper()
	r := mustParse(t, l.text)
	if r.Id != id || len(r.Slots) != len(l.passes) {
		t.Fatalf("the id %x, %d slots, want %x, %d", r.Id, len(r.Slots), id, len(l.passes))
	}
	for _, s := range kept {
		if !slices.Contains(r.Slots, s) {
			t.Errorf("a slot of which the call did not speak is another one: %+v", s)
		}
	}
	for i, pass := range l.passes {
		wantOpens(t, mustPrint(t, api.Ring{Id: r.Id, Slots: r.Slots[i : i+1]}), pass, somewhat(32), 0)
	}
	for i := range len(words) {
		if pass := words[i : i+1]; l.first(pass) >= 0 {
			wantOpens(t, l.text, pass, somewhat(32), l.first(pass))
		} else {
			wantShut(t, l.text, pass, api.ErrPass)
		}
	}
}

// TestFaultsAreThrownAndNothingElseIsCaught: what is no fault of a text must not be hidden as one.
func TestFaultsAreThrownAndNothingElseIsCaught(t *testing.T) {
	if e := firstFault(func() {}); e != api.OK {
		t.Errorf("nothing thrown: %d", e)
	}
	for _, code := range []api.Errno{api.ErrForm, api.ErrCheck, api.ErrField} {
		if e := firstFault(func() { throw(code) }); e != code {
			t.Errorf("thrown %d: %d", code, e)
		}
	}
	defer func() {
		if recover() != "another thing" {
			t.Error("what is no fault is not handed on")
		}
	}()
	firstFault(func() { panic("another thing") })
}

func TestDigitsOfTheTextAreLow(t *testing.T) {
	text := mustPrint(t, api.Ring{Id: "\xab\xcd\xef" + somewhat(13), Slots: ringOf(t, 1).Slots})
	if !strings.HasPrefix(text, "casket ring 1\nid abcdef"+hex.EncodeToString([]byte(somewhat(13)))+"\nslots 1\nslot 1 ") {
		t.Errorf("the text: %q", text)
	}
}
