package path

import (
	"fmt"
	"math/rand"
	"slices"
	"strings"
	"sync"
	"testing"

	"casket/api"
)

func long(n int) string { return strings.Repeat("n", n) }

func list(names ...string) []string { return names }

// shown spares the reader a thousand bytes.
func shown(s string) string {
	if len(s) > 60 {
		return fmt.Sprintf("%q .. (%d bytes)", s[:60], len(s))
	}
	return fmt.Sprintf("%q", s)
}

// many is one name, time and again.
func many(name string, times int) []string { return slices.Repeat([]string{name}, times) }

func wantName(t *testing.T, s string, fault api.Errno) {
	t.Helper()
	if e := Name(s); e != fault {
		t.Errorf("Name(%s): %d, want %d", shown(s), e, fault)
	}
}

func wantParsed(t *testing.T, text string, want []string, fault api.Errno) {
	t.Helper()
	if l, e := Parse(text); !slices.Equal(l, want) || e != fault {
		t.Errorf("Parse(%s): %q, %d, want %q, %d", shown(text), l, e, want, fault)
	}
}

func wantText(t *testing.T, names []string, want string, fault api.Errno) {
	t.Helper()
	if s, e := Text(names); s != want || e != fault {
		t.Errorf("Text(%q): %s, %d, want %s, %d", names, shown(s), e, shown(want), fault)
	}
}

func wantInside(t *testing.T, p, q []string, want bool) {
	t.Helper()
	if in := Inside(p, q); in != want {
		t.Errorf("Inside(%q, %q): %v, want %v", p, q, in, want)
	}
}

func wantMapped(t *testing.T, text string, from, to []string, want string, fault api.Errno) {
	t.Helper()
	if s, e := Map(text, from, to); s != want || e != fault {
		t.Errorf("Map(%s, %q, %q): %s, %d, want %s, %d", shown(text), from, to, shown(s), e, shown(want), fault)
	}
}

func mustParse(t *testing.T, text string) []string {
	t.Helper()
	l, e := Parse(text)
	if e != api.OK {
		t.Fatalf("Parse(%s): %d", shown(text), e)
	}
	return l
}

// What follows does the document's words once more, byte by byte, against which the program is held.

func plainName(s string) api.Errno {
	if len(s) < 1 || len(s) > 32 {
		return api.ErrName
	}
	for i := 0; i < len(s); i++ {
		if s[i] < 33 || s[i] > 126 || s[i] == 47 {
			return api.ErrName
		}
	}
	if s == "." || s == ".." {
		return api.ErrName
	}
	return api.OK
}

func plainFault(names []string) api.Errno {
	for _, n := range names {
		if plainName(n) != api.OK {
			return api.ErrName
		}
	}
	if len(names) > 16 {
		return api.ErrDepth
	}
	return api.OK
}

func plainParse(text string) ([]string, api.Errno) {
	if len(text) > 1024 || len(text) == 0 || text[0] != '/' || len(text) > 1 && text[len(text)-1] == '/' {
		return nil, api.ErrPath
	}
	if len(text) == 1 {
		return nil, api.OK
	}
	var names []string
	piece := ""
	for i := 1; i < len(text); i++ {
		if text[i] == '/' {
			names = append(names, piece)
			piece = ""
			continue
		}
		piece += text[i : i+1]
	}
	names = append(names, piece)
	if e := plainFault(names); e != api.OK {
		return nil, e
	}
	return names, api.OK
}

func plainText(names []string) (string, api.Errno) {
	if e := plainFault(names); e != api.OK {
		return "", e
	}
	if len(names) == 0 {
		return "/", api.OK
	}
	text := ""
	for _, n := range names {
		text += "/" + n
	}
	return text, api.OK
}

func plainInside(p, q []string) bool {
	for i := range p {
		if i >= len(q) || p[i] != q[i] {
			return false
		}
	}
	return true
}

func plainMap(text string, from, to []string) (string, api.Errno) {
	names, e := plainParse(text)
	if e != api.OK {
		return "", e
	}
	if len(from) != len(to) {
		return "", api.ErrArg
	}
	for i, n := range names {
		for j := len(from) - 1; j >= 0; j-- { // backwards, so that the first place has the last word
			if from[j] == n {
				names[i] = to[j]
			}
		}
	}
	return plainText(names)
}

func holdParse(t *testing.T, text string) {
	t.Helper()
	want, fault := plainParse(text)
	wantParsed(t, text, want, fault)
}

func holdText(t *testing.T, names []string) {
	t.Helper()
	want, fault := plainText(names)
	wantText(t, names, want, fault)
}

func holdMap(t *testing.T, text string, from, to []string) {
	t.Helper()
	want, fault := plainMap(text, from, to)
	wantMapped(t, text, from, to, want, fault)
}

// P11.1

func TestNameOfTheExamples(t *testing.T) {
	for _, s := range list("a", "A-b_c.9~", "...", long(32)) {
		wantName(t, s, api.OK)
	}
	for _, s := range list("", ".", "..", "a b", "a/b", "é", long(33), "a\x7f") {
		wantName(t, s, api.ErrName)
	}
}

// Each byte stands alone, ahead, amid and behind.
func TestNameOfEachByte(t *testing.T) {
	for b := range 256 {
		c := string([]byte{byte(b)})
		fault := api.ErrName
		if b >= 33 && b <= 126 && b != 47 {
			fault = api.OK
		}
		for _, s := range list(c+"a", "a"+c+"a", "a"+c, c+c+c) {
			wantName(t, s, fault)
		}
		if c == "." {
			fault = api.ErrName
		}
		wantName(t, c, fault)
		wantName(t, c+c, fault)
	}
}

func TestNameOfEachPairOfBytes(t *testing.T) {
	for b := range 1 << 16 {
		s := string([]byte{byte(b >> 8), byte(b)})
		wantName(t, s, plainName(s))
	}
}

func TestNameOfEachLength(t *testing.T) {
	for n := range 100 {
		fault := api.OK
		if n < 1 || n > 32 {
			fault = api.ErrName
		}
		wantName(t, long(n), fault)
	}
	wantName(t, strings.Repeat(".", 32), api.OK)
	wantName(t, strings.Repeat(".", 33), api.ErrName)
	wantName(t, long(31)+"\xff", api.ErrName)
	wantName(t, long(1<<20), api.ErrName)
}

// Runes that are below 127 when cut to a byte, or to fewer bits, are no names either.
func TestNameOfRunes(t *testing.T) {
	for r := rune(128); r < 0x3000; r++ {
		wantName(t, string(r), api.ErrName)
	}
	for _, s := range list("\u0141", "a\U00010041", "\ufffd", "\xc1\x81", "\xed\xa0\x80", "\xf8", "a\x80", "\x80a") {
		wantName(t, s, api.ErrName)
	}
}

func TestNamesOfDots(t *testing.T) {
	for _, s := range list("....", ".a", "..a", "a.", "a..", ".a.", "-", "*", ":", "\\", "~", "!", "\"") {
		wantName(t, s, api.OK)
	}
}

// P11.2

func TestParseOfTheExamples(t *testing.T) {
	wantParsed(t, "/", nil, api.OK)
	wantParsed(t, "/a", list("a"), api.OK)
	wantParsed(t, "/a/b.c", list("a", "b.c"), api.OK)
	for _, s := range list("", "a", "/a/", "//") {
		wantParsed(t, s, nil, api.ErrPath)
	}
	for _, s := range list("//a", "/a//b", "/a/./b", "/ ") {
		wantParsed(t, s, nil, api.ErrName)
	}
	wantParsed(t, strings.Repeat("/a", 16), many("a", 16), api.OK)
	wantParsed(t, strings.Repeat("/a", 17), nil, api.ErrDepth)
	wantParsed(t, strings.Repeat("/a", 17)+"/.", nil, api.ErrName)
	wantParsed(t, "/"+long(1024), nil, api.ErrPath)
	wantParsed(t, "/"+long(1023), nil, api.ErrName)
}

func TestParseAtItsLimits(t *testing.T) {
	wantParsed(t, strings.Repeat("/"+long(32), 16), many(long(32), 16), api.OK)
	wantParsed(t, strings.Repeat("/"+long(32), 17), nil, api.ErrDepth)
	wantParsed(t, strings.Repeat("/"+long(33), 16), nil, api.ErrName)
	wantParsed(t, strings.Repeat("/a", 512), nil, api.ErrDepth)
	wantParsed(t, strings.Repeat("/a", 512)+"a", nil, api.ErrPath)
	wantParsed(t, strings.Repeat("/", 1024), nil, api.ErrPath)
	wantParsed(t, strings.Repeat("/", 1023)+"a", nil, api.ErrName)
	wantParsed(t, strings.Repeat("/", 1024)+"a", nil, api.ErrPath)
	wantParsed(t, long(1<<21), nil, api.ErrPath)
}

// A wrong name counts ahead of too many, wherever it stands, and no path at all ahead of both.
func TestParseTellsTheFirstFault(t *testing.T) {
	for _, wrong := range list("", ".", "..", " ", "é", long(33)) {
		for i := range 20 {
			names := many("a", 20)
			names[i] = wrong
			text := "/" + strings.Join(names, "/")
			fault := api.ErrName
			if wrong == "" && i == 19 {
				fault = api.ErrPath
			}
			wantParsed(t, text, nil, fault)
			wantParsed(t, text+"/", nil, api.ErrPath)
			wantParsed(t, text[1:]+"/", nil, api.ErrPath)
		}
	}
	wantParsed(t, "a/./b", nil, api.ErrPath)
	wantParsed(t, " /a", nil, api.ErrPath)
	wantParsed(t, "///", nil, api.ErrPath)
	wantParsed(t, "/./", nil, api.ErrPath)
	wantParsed(t, "\\a", nil, api.ErrPath)
}

// texts gives all texts of up to n of these pieces to f.
func texts(n int, pieces []string, f func(string)) {
	f("")
	if n == 0 {
		return
	}
	texts(n-1, pieces, func(s string) {
		for _, p := range pieces {
			f(s + p)
		}
	})
}

func TestParseOfAllShortTexts(t *testing.T) {
	texts(6, list("/", ".", "a", "\x80", " "), func(s string) { holdParse(t, s) })
	texts(9, list("/", ".", "b"), func(s string) { holdParse(t, s) })
}

func TestParseOfEachLength(t *testing.T) {
	for n := range 1100 {
		holdParse(t, "/"+long(n))
		holdParse(t, strings.Repeat("/a", n))
		holdParse(t, strings.Repeat("/ab", n))
		holdParse(t, strings.Repeat("/"+long(32), n%40))
	}
}

// P11.3

func TestTextOfTheExamples(t *testing.T) {
	wantText(t, nil, "/", api.OK)
	wantText(t, list(), "/", api.OK)
	wantText(t, list("a"), "/a", api.OK)
	wantText(t, list("a", "b.c"), "/a/b.c", api.OK)
	wantText(t, list("a", ""), "", api.ErrName)
}

func TestTextAtItsLimits(t *testing.T) {
	wantText(t, many(long(32), 16), strings.Repeat("/"+long(32), 16), api.OK)
	wantText(t, many(long(32), 17), "", api.ErrDepth)
	wantText(t, many(long(33), 16), "", api.ErrName)
	wantText(t, many("a", 1<<16), "", api.ErrDepth)
	wantText(t, append(many("a", 1<<16), "."), "", api.ErrName)
}

func TestTextTellsTheFirstFault(t *testing.T) {
	for _, wrong := range list("", ".", "..", " ", "/", "a/b", "/a", "é", long(33)) {
		for _, count := range []int{1, 2, 16, 17, 30} {
			for i := range count {
				names := many("a", count)
				names[i] = wrong
				wantText(t, names, "", api.ErrName)
			}
		}
	}
}

// P11.4

func TestInsideOfTheExamples(t *testing.T) {
	wantInside(t, nil, nil, true)
	wantInside(t, list("a"), list("a", "b"), true)
	wantInside(t, list("a"), list("a"), true)
	wantInside(t, list("a", "b"), list("a"), false)
	wantInside(t, list("a"), list("ab"), false)
	wantInside(t, list("b"), list("a", "b"), false)
}

func TestNilAndEmptyMeanTheSame(t *testing.T) {
	for _, none := range [][]string{nil, {}, make([]string, 0, 4)} {
		for _, other := range [][]string{nil, {}} {
			wantInside(t, none, other, true)
			wantMapped(t, "/a", none, other, "/a", api.OK)
		}
		wantInside(t, none, list("a"), true)
		wantInside(t, list("a"), none, false)
		wantInside(t, list(""), none, false)
		wantText(t, none, "/", api.OK)
		wantMapped(t, "/", none, list("a"), "", api.ErrArg)
		wantMapped(t, "/", list("a"), none, "", api.ErrArg)
	}
}

// Texts are compared as they stand, whether they are names or not, and however many there are.
func TestInsideOfWhatIsNoName(t *testing.T) {
	wantInside(t, list(""), list("", "a"), true)
	wantInside(t, list(".", "/", ""), list(".", "/", ""), true)
	wantInside(t, list("a/b"), list("a", "b"), false)
	wantInside(t, list("a", "b"), list("a/b"), false)
	wantInside(t, list("a", ".."), list("a", "b"), false)
	wantInside(t, list("a"), list("A"), false)
	wantInside(t, list(""), list("a"), false)
	wantInside(t, list(long(1000)), list(long(1000), "x"), true)
	wantInside(t, list(long(1000)), list(long(1001)), false)
	wantInside(t, many("a", 1000), many("a", 1001), true)
	wantInside(t, many("a", 1001), many("a", 1000), false)
	wantInside(t, append(many("a", 999), "b"), many("a", 1001), false)
}

// A list ends at its end, whatever lies behind it in its memory.
func TestInsideStopsAtTheEnd(t *testing.T) {
	memory := list("a", "b", "c")
	wantInside(t, memory, memory[:2], false)
	wantInside(t, memory[:2], memory, true)
}

func TestInsideOfAllShortLists(t *testing.T) {
	texts(4, list("a ", "b "), func(p string) {
		texts(4, list("a ", "b "), func(q string) {
			l, m := strings.Fields(p), strings.Fields(q)
			wantInside(t, l, m, plainInside(l, m))
		})
	})
}

// P11.5

func TestMapOfTheExamples(t *testing.T) {
	wantMapped(t, "/a/b/a", list("a", "b"), list("x", "a"), "/x/a/x", api.OK)
	wantMapped(t, "/a", list("a", "a"), list("x", "y"), "/x", api.OK)
	wantMapped(t, "/a", list("b"), list("x"), "/a", api.OK)
	wantMapped(t, "/a", list("a"), nil, "", api.ErrArg)
	wantMapped(t, "/a", list("a"), list(""), "", api.ErrName)
	wantMapped(t, "a", list("a"), nil, "", api.ErrPath)
}

func TestMapTellsTheFirstFault(t *testing.T) {
	for _, c := range []struct {
		text  string
		fault api.Errno
	}{{"", api.ErrPath}, {"/a/", api.ErrPath}, {"//a", api.ErrName}, {strings.Repeat("/a", 17), api.ErrDepth}, {"/" + long(1024), api.ErrPath}, {"/a", api.ErrArg}, {"/", api.ErrArg}} {
		wantMapped(t, c.text, list("a"), nil, "", c.fault)
		wantMapped(t, c.text, nil, list("."), "", c.fault)
		wantMapped(t, c.text, list("a"), list(".", "b"), "", c.fault)
		wantMapped(t, c.text, list("a", "b"), list("."), "", c.fault)
	}
	// A text that would be a path behind the change is none ahead of it.
	wantMapped(t, "/.", list("."), list("a"), "", api.ErrName)
	wantMapped(t, "//a", list(""), list("b"), "", api.ErrName)
}

// What stands in the table counts only where it comes into the path.
func TestMapOfWhatIsNoName(t *testing.T) {
	wantMapped(t, "/b", list("a"), list(".."), "/b", api.OK)
	wantMapped(t, "/b", list("", ".", long(99)), list("x", "", "/"), "/b", api.OK)
	wantMapped(t, "/a", list("a", "a"), list("x", "."), "/x", api.OK)
	wantMapped(t, "/a", list("a", "a"), list(".", "x"), "", api.ErrName)
	for _, wrong := range list("", ".", "..", "a/b", "/", " ", "\xff", long(33)) {
		wantMapped(t, "/b/a", list("a"), list(wrong), "", api.ErrName)
		wantMapped(t, "/a/b", list("a"), list(wrong), "", api.ErrName)
	}
	wantMapped(t, "/a/b", list("a"), list(long(32)), "/"+long(32)+"/b", api.OK)
}

// Each name is changed once, all of them at once: what a change gives is not changed again.
func TestMapChangesOnce(t *testing.T) {
	wantMapped(t, "/a/b", list("a", "b"), list("b", "a"), "/b/a", api.OK)
	wantMapped(t, "/a/b/c", list("a", "b", "c"), list("b", "c", "d"), "/b/c/d", api.OK)
	wantMapped(t, "/c/b/a", list("c", "b", "a"), list("b", "a", "z"), "/b/a/z", api.OK)
	wantMapped(t, "/ab/a", list("a"), list("x"), "/ab/x", api.OK)
	wantMapped(t, "/a/b", list("a/b", "/a"), list("x", "y"), "/a/b", api.OK)
	wantMapped(t, "/", list("", "/"), list("x", "y"), "/", api.OK)
}

func TestMapAtItsLimits(t *testing.T) {
	wantMapped(t, strings.Repeat("/a", 16), list("a"), list(long(32)), strings.Repeat("/"+long(32), 16), api.OK)
	wantMapped(t, strings.Repeat("/a", 16), list("a"), list(long(33)), "", api.ErrName)
	from, to := many("b", 1<<16), many("c", 1<<16)
	wantMapped(t, "/a/b", from, to, "/a/c", api.OK)
	wantMapped(t, "/a/b", append(from, "a"), append(to, "d"), "/d/c", api.OK)
}

// Against the plain words, of random paths and tables.

// odd is a text that is often a name, and now and then is none.
func odd(r *rand.Rand) string {
	switch r.Intn(40) {
	case 0:
		return list("", ".", "..", " ", "a/b", "\xff", long(33))[r.Intn(7)]
	case 1:
		return long(1 + r.Intn(32))
	}
	return string(rune('a' + r.Intn(6)))
}

func odds(r *rand.Rand, most int) []string {
	var l []string
	for range r.Intn(most + 1) {
		l = append(l, odd(r))
	}
	return l
}

func TestAgainstThePlainWords(t *testing.T) {
	r := rand.New(rand.NewSource(11))
	for range 30000 {
		names := odds(r, 18)
		text := "/" + strings.Join(names, "/")
		holdParse(t, text)
		holdText(t, names)
		from, to := odds(r, 5), odds(r, 5)
		if r.Intn(3) > 0 {
			to = make([]string, len(from))
			for i := range to {
				to[i] = odd(r)
			}
		}
		holdMap(t, text, from, to)
		other := append(slices.Clone(names[:r.Intn(len(names)+1)]), odds(r, 2)...)
		wantInside(t, other, names, plainInside(other, names))
		wantInside(t, names, other, plainInside(names, other))
	}
}

// P11.6

func TestNothingPanics(t *testing.T) {
	r := rand.New(rand.NewSource(116))
	for range 20000 {
		b := make([]byte, r.Intn(40))
		r.Read(b)
		s := string(b)
		wantName(t, s, plainName(s))
		holdParse(t, s)
		holdParse(t, "/"+s)
		l := strings.Split(s, "a")
		holdText(t, l)
		holdMap(t, "/"+s, l, l)
		wantInside(t, l, l, true)
	}
}

func TestManyAtOnce(t *testing.T) {
	from, to := list("a", "b"), list("x", "a")
	var all sync.WaitGroup
	for range 8 {
		all.Add(1)
		go func() {
			defer all.Done()
			for range 200 {
				wantMapped(t, "/a/b/a", from, to, "/x/a/x", api.OK)
				wantInside(t, from[:1], from, true)
				wantParsed(t, "/a/b", from, api.OK)
				wantText(t, to, "/x/a", api.OK)
			}
		}()
	}
	all.Wait()
}

// What is handed in, and the memory of answers

// roomy is a list with spare room behind its end, and the whole of its memory.
func roomy(names ...string) (short, memory []string) {
	memory = append(slices.Clone(names), "spare", "room")
	return memory[:len(names)], memory
}

func TestWhatIsHandedInStays(t *testing.T) {
	p, atP := roomy("a", "b")
	q, atQ := roomy("x", "a")
	Text(p)
	Inside(p, q)
	Inside(p, p)
	Map("/a/b/a", p, q)
	Map("/a/b/a", p, p[:1])
	wide, atWide := roomy(many("a", 17)...)
	Text(wide)
	if !slices.Equal(atP, list("a", "b", "spare", "room")) || !slices.Equal(atQ, list("x", "a", "spare", "room")) {
		t.Errorf("what was handed in is changed: %q, %q", atP, atQ)
	}
	if !slices.Equal(atWide, append(many("a", 17), "spare", "room")) {
		t.Errorf("what was handed in is changed: %q", atWide)
	}
}

func TestParseAnswersNewMemory(t *testing.T) {
	for _, text := range list("/", "/a", "/a/b.c", strings.Repeat("/a", 16)) {
		want, _ := plainParse(text)
		first := mustParse(t, text)
		for i := range first {
			first[i] = "spoilt"
		}
		for i := range first[:cap(first)] {
			first[:cap(first)][i] = "spoilt"
		}
		wantParsed(t, text, want, api.OK)
	}
}

// P11.7

func TestParseAndTextUndoEachOther(t *testing.T) {
	r := rand.New(rand.NewSource(117))
	took := 0
	for range 20000 {
		names := odds(r, 17)
		if text, e := Text(names); e == api.OK {
			took++
			wantParsed(t, text, names, api.OK)
		}
		text := "/" + strings.Join(names, "/")
		if l, e := Parse(text); e == api.OK {
			wantText(t, l, text, api.OK)
		}
	}
	if took < 5000 {
		t.Errorf("only %d lists were names", took)
	}
	texts(7, list("/", ".", "a"), func(s string) {
		if l, e := Parse(s); e == api.OK {
			wantText(t, l, s, api.OK)
		}
	})
}

// undoable tells whether the document promises that a table can be undone of this path.
func undoable(names, from, to []string) bool {
	for i := range from {
		if slices.Contains(from[:i], from[i]) || slices.Contains(to[:i], to[i]) {
			return false
		}
	}
	for _, n := range names {
		if !slices.Contains(from, n) && slices.Contains(to, n) {
			return false
		}
	}
	return true
}

// table is one that may often be undone: letters, in another order or others.
func table(r *rand.Rand) (from, to []string) {
	n := r.Intn(5)
	for _, i := range r.Perm(6)[:n] {
		from = append(from, string(rune('a'+i)))
	}
	for _, i := range r.Perm(9)[:n] {
		to = append(to, list("a", "b", "c", "d", "e", "f", "g", "h", "..")[i])
	}
	return from, to
}

func TestMapIsUndone(t *testing.T) {
	r := rand.New(rand.NewSource(1170))
	undone := 0
	for range 30000 {
		p := odds(r, 6)
		from, to := table(r)
		text, fault := Text(p)
		if fault != api.OK || !undoable(p, from, to) {
			continue
		}
		if there, e := Map(text, from, to); e == api.OK {
			undone++
			wantMapped(t, there, to, from, text, api.OK)
		}
	}
	if undone < 1000 {
		t.Errorf("only %d were undone", undone)
	}
}

func TestInsideStaysUnderMap(t *testing.T) {
	r := rand.New(rand.NewSource(1171))
	inside, outside := 0, 0
	for range 60000 {
		q := odds(r, 4)
		p := append(slices.Clone(q[:r.Intn(len(q)+1)]), odds(r, 1)...)
		from, to := table(r)
		if !undoable(p, from, to) || !undoable(q, from, to) {
			continue
		}
		textP, faultP := Text(p)
		textQ, faultQ := Text(q)
		if faultP != api.OK || faultQ != api.OK {
			continue
		}
		thereP, faultP := Map(textP, from, to)
		thereQ, faultQ := Map(textQ, from, to)
		if faultP != api.OK || faultQ != api.OK {
			continue
		}
		wantInside(t, mustParse(t, thereP), mustParse(t, thereQ), Inside(p, q))
		if Inside(p, q) {
			inside++
		} else {
			outside++
		}
	}
	if inside < 1000 || outside < 1000 {
		t.Errorf("only %d lay inside, %d did not", inside, outside)
	}
}
