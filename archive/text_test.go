package archive

import (
	"fmt"
	"math/rand"
	"slices"
	"strconv"
	"strings"
	"testing"

	"casket/api"
)

// wantBoth: entries that are an archive are printed so and read back.
func wantBoth(t *testing.T, entries ...api.Entry) {
	t.Helper()
	text := summed(bodyOf(entries))
	wantPrint(t, entries, text, api.OK)
	wantParse(t, text, entries, api.OK)
}

// wantNeither: entries that are none are refused, and so is what would be their text (Kinds that have no line aside).
func wantNeither(t *testing.T, entries ...api.Entry) {
	t.Helper()
	wantPrint(t, entries, "", api.ErrEntry)
	for _, e := range entries {
		if e.Kind != api.IsDir && e.Kind != api.IsFile || e.Kind == api.IsDir && e.Data != "" {
			return
		}
	}
	wantParse(t, summed(bodyOf(entries)), nil, api.ErrEntry)
}

// chain is directories in one another, so deep.
func chain(name string, deep int) []api.Entry {
	var entries []api.Entry
	for i := range deep {
		entries = append(entries, dirEntry(strings.Repeat("/"+name, i+1)))
	}
	return entries
}

func TestEntriesByThemselves(t *testing.T) {
	long := strings.Repeat("n", 32)
	for _, p := range []string{"/a", "/~", "/!", "/...", "/.a", "/" + long} {
		wantBoth(t, dirEntry(p))
		wantBoth(t, fileEntry(p, ""))
	}
	for _, p := range []string{"/.", "/..", "/" + long + "n", "/a/", "//", "/a\x7f", "/é", "/a\t", "/\x00", "a", "/a\r"} {
		wantNeither(t, dirEntry(p))
		wantNeither(t, fileEntry(p, "x"))
	}
	for _, p := range []string{"", "/a b", "/a\n", "/"} {
		wantPrint(t, []api.Entry{dirEntry(p)}, "", api.ErrEntry)
		wantPrint(t, []api.Entry{fileEntry(p, "")}, "", api.ErrEntry)
	}
	wantNeither(t, dirEntry("/"))
	wantNeither(t, fileEntry("/", ""))
	for _, kind := range []int{0, -1, 3, 1 << 62} {
		wantNeither(t, api.Entry{Path: "/a", Kind: kind})
	}
	wantNeither(t, api.Entry{Path: "/a", Kind: api.IsDir, Data: "\x00"})
	for _, data := range []string{"x", "\n", "\n\n", " ", "\x00\xff", "sum 00\n", "file 0 /b\n", strings.Repeat("\n", 999), strings.Repeat("x", 65536)} {
		wantBoth(t, fileEntry("/a", data))
		wantBoth(t, fileEntry("/a", data), fileEntry("/b", data))
	}
	wantNeither(t, fileEntry("/a", strings.Repeat("x", 65537)))
	wantNeither(t, fileEntry("/a", ""), fileEntry("/b", strings.Repeat("x", 999999)))
	wantParse(t, summed(bodyOf([]api.Entry{fileEntry("/a", strings.Repeat("x", 1000000))})), nil, api.ErrArchive)
}

func TestEntriesAmongOthers(t *testing.T) {
	wantBoth(t, chain("a", 16)...)
	wantBoth(t, chain(strings.Repeat("n", 32), 16)...)
	wantNeither(t, chain("a", 17)...)
	wantBoth(t, append(chain("a", 15), fileEntry(strings.Repeat("/a", 16), "x"))...)
	wantNeither(t, append(chain("a", 16), fileEntry(strings.Repeat("/a", 17), "x"))...)
	wantNeither(t, chain("a", 3)[1:]...)
	wantNeither(t, chain("a", 3)[0], chain("a", 3)[2])
	wantBoth(t, dirEntry("/a"), dirEntry("/a!"), dirEntry("/a!/x"), dirEntry("/a/x"), dirEntry("/a0"))
	wantNeither(t, dirEntry("/a"), dirEntry("/a/x"), dirEntry("/a!"))
	wantNeither(t, dirEntry("/a!"), fileEntry("/a/x", ""))
	wantNeither(t, dirEntry("/a"), fileEntry("/ab/x", ""))
	wantNeither(t, dirEntry("/ab"), fileEntry("/a/x", ""))
	wantNeither(t, fileEntry("/a", ""), dirEntry("/a/x"))
	wantNeither(t, fileEntry("/a", "grain"), fileEntry("/a/x", ""))
	wantNeither(t, fileEntry("/a", ""), dirEntry("/a"))
	wantNeither(t, dirEntry("/a"), fileEntry("/a", ""))
	wantBoth(t, fileEntry("/A", ""), fileEntry("/a", ""))
	wantNeither(t, fileEntry("/a", ""), fileEntry("/A", ""))
	wantBoth(t, fileEntry("/10", ""), fileEntry("/9", ""))
	wantNeither(t, fileEntry("/9", ""), fileEntry("/10", ""))
}

// many is directories with names of six digits.
func many(n int) []api.Entry {
	var entries []api.Entry
	for i := range n {
		entries = append(entries, dirEntry(fmt.Sprintf("/%06d", i)))
	}
	return entries
}

func TestHowManyEntries(t *testing.T) {
	entries := many(1000000)
	text := summed(bodyOf(entries[:999999]))
	if s, e := Print(entries[:999999]); s != text || e != api.OK {
		t.Errorf("P24.2: 999999 entries: %.99q, %d", s, e)
	}
	if l, e := Parse(text); !slices.Equal(l, entries[:999999]) || e != api.OK {
		t.Errorf("P24.3: 999999 entries: %d, %d", len(l), e)
	}
	if s, e := Print(entries); s != "" || e != api.ErrEntry {
		t.Errorf("P24.2: 1000000 entries: %.99q, %d", s, e)
	}
	if l, e := Parse(summed(bodyOf(entries))); l != nil || e != api.ErrArchive {
		t.Errorf("P24.3: 1000000 entries: %d, %d", len(l), e)
	}
}

// heavy is files, the last as long as their text is to be made of so many bytes.
func heavy(length int) []api.Entry {
	var entries []api.Entry
	for i := range 255 {
		entries = append(entries, fileEntry(fmt.Sprintf("/%03d", i), strings.Repeat("x", 65536)))
	}
	last := fileEntry("/999", strings.Repeat("y", 50000))
	rest := length - len(summed(bodyOf(append(entries, last))))
	last.Data = strings.Repeat("y", 50000+rest)
	return append(entries, last)
}

func TestHowManyBytes(t *testing.T) {
	entries := heavy(api.MaxArchive)
	text := summed(bodyOf(entries))
	if len(text) != 16777216 {
		t.Fatalf("the text has %d bytes", len(text))
	}
	if s, e := Print(entries); s != text || e != api.OK {
		t.Errorf("P24.2: %d bytes, %d", len(s), e)
	}
	if l, e := Parse(text); !slices.Equal(l, entries) || e != api.OK {
		t.Errorf("P24.3: %d entries, %d", len(l), e)
	}
	entries = heavy(api.MaxArchive + 1)
	if s, e := Print(entries); s != "" || e != api.ErrBig {
		t.Errorf("P24.2: one byte more: %d bytes, %d", len(s), e)
	}
	text = summed(bodyOf(entries))
	if l, e := Parse(text); l != nil || e != api.ErrBig {
		t.Errorf("P24.3: one byte more: %d entries, %d", len(l), e)
	}
	if l, e := Parse(text[1:]); l != nil || e != api.ErrArchive {
		t.Errorf("P24.3: as many as may be, and no form: %d entries, %d", len(l), e)
	}
	entries[0].Kind = 0
	if s, e := Print(entries); s != "" || e != api.ErrEntry {
		t.Errorf("P24.2: no archive, and too long: %d bytes, %d", len(s), e)
	}
}

// TestForm: lines that are not quite those of the form, each with its right sum; and some that are.
func TestForm(t *testing.T) {
	lineOf := func(text string) string { return "casket archive 1\nentries 1\n" + text }
	for text, want := range map[string]api.Errno{
		"casket archive 1\nentries 0\n":                               api.OK,
		"casket archive 1\nentries 00\n":                              api.ErrArchive,
		"casket archive 1\nentries +0\n":                              api.ErrArchive,
		"casket archive 1\nentries -0\n":                              api.ErrArchive,
		"casket archive 1\nentries 0 \n":                              api.ErrArchive,
		"casket archive 1\nentries  0\n":                              api.ErrArchive,
		"casket archive 1\nentries \n":                                api.ErrArchive,
		"casket archive 1\nentries\n":                                 api.ErrArchive,
		"casket archive 1\nentries 0x0\n":                             api.ErrArchive,
		"casket archive 1\nentries 0_0\n":                             api.ErrArchive,
		"casket archive 1\nentries ٠\n":                               api.ErrArchive,
		"casket archive 1\nentries 0\r\n":                             api.ErrArchive,
		"casket archive 1\r\nentries 0\n":                             api.ErrArchive,
		"casket archive 1\nentries 0\n\n":                             api.ErrArchive,
		"casket archive 1\nentries 1\n":                               api.ErrArchive,
		"casket archive 1\nentries 999999\n":                          api.ErrArchive,
		"casket archive 1\nentries 1000000\n":                         api.ErrArchive,
		"casket archive 1\nentries -1\n":                              api.ErrArchive,
		"casket archive 1\nentries 18446744073709551616":              api.ErrArchive,
		"casket archive 1\nentries 18446744073709551617\ndir /a\n":    api.ErrArchive,
		"casket archive 2\nentries 0\n":                               api.ErrArchive,
		"casket archive 1 \nentries 0\n":                              api.ErrArchive,
		" casket archive 1\nentries 0\n":                              api.ErrArchive,
		"Casket archive 1\nentries 0\n":                               api.ErrArchive,
		"casket archive 1\n\nentries 0\n":                             api.ErrArchive,
		"casket archive 1\nEntries 0\n":                               api.ErrArchive,
		"entries 0\n":                                                 api.ErrArchive,
		"":                                                            api.ErrArchive,
		"\n":                                                          api.ErrArchive,
		lineOf("dir /a\n"):                                            api.OK,
		lineOf("dir /a\n\n"):                                          api.ErrArchive,
		lineOf("dir /a \n"):                                           api.ErrArchive,
		lineOf("dir\t/a\n"):                                           api.ErrArchive,
		lineOf("dir\n"):                                               api.ErrArchive,
		lineOf("dir \n"):                                              api.ErrArchive,
		lineOf("DIR /a\n"):                                            api.ErrArchive,
		lineOf("dirs /a\n"):                                           api.ErrArchive,
		lineOf("\n"):                                                  api.ErrArchive,
		lineOf("link /a\n"):                                           api.ErrArchive,
		lineOf("dir a\n"):                                             api.ErrEntry,
		lineOf("dir /\n"):                                             api.ErrEntry,
		lineOf("dir \x00\n"):                                          api.ErrEntry,
		lineOf("dir /a\t\n"):                                          api.ErrEntry,
		lineOf("dir /a/x\n"):                                          api.ErrEntry,
		lineOf("dir " + strings.Repeat("/", 4000) + "\n"):             api.ErrEntry,
		lineOf("file 0 /a\n\n"):                                       api.OK,
		lineOf("file 0 /a\n"):                                         api.ErrArchive,
		lineOf("file 0 /a\n\n\n"):                                     api.ErrArchive,
		lineOf("file 1 /a\n\n"):                                       api.ErrArchive,
		lineOf("file 1 /a\n\n\n"):                                     api.OK,
		lineOf("file 00 /a\n\n"):                                      api.ErrArchive,
		lineOf("file +0 /a\n\n"):                                      api.ErrArchive,
		lineOf("file -1 /a\n\n"):                                      api.ErrArchive,
		lineOf("file  0 /a\n\n"):                                      api.ErrArchive,
		lineOf("file 0  /a\n\n"):                                      api.ErrArchive,
		lineOf("file 0 /a \n\n"):                                      api.ErrArchive,
		lineOf("file 0 \n\n"):                                         api.ErrArchive,
		lineOf("0 /a\n\n"):                                            api.ErrArchive,
		lineOf("files 0 /a\n\n"):                                      api.ErrArchive,
		lineOf("file0 /a\n\n"):                                        api.ErrArchive,
		lineOf("link 0 /a\n\n"):                                       api.ErrArchive,
		lineOf("file 0\n\n"):                                          api.ErrArchive,
		lineOf("file /a\n\n"):                                         api.ErrArchive,
		lineOf("file  /a\n\n"):                                        api.ErrArchive,
		lineOf("file /a 0\n\n"):                                       api.ErrArchive,
		lineOf("file \n\n"):                                           api.ErrArchive,
		lineOf("file 1 /a\nxy\n"):                                     api.ErrArchive,
		lineOf("file 2 /a\nx\n"):                                      api.ErrArchive,
		lineOf("file 999999 /a\nx\n"):                                 api.ErrArchive,
		lineOf("file 1000000 /a\nx\n"):                                api.ErrArchive,
		lineOf("file 9223372036854775807 /a\nx\n"):                    api.ErrArchive,
		lineOf("file 18446744073709551617 /a\nx\n"):                   api.ErrArchive,
		lineOf("file 65537 /a\n" + strings.Repeat("x", 65537)):        api.ErrArchive,
		lineOf("file 65537 /a\n" + strings.Repeat("x", 65537) + "\n"): api.ErrEntry,
		lineOf("file 999999 /a\n" + strings.Repeat("x", 999999) + "\n"):   api.ErrEntry,
		lineOf("file 1000000 /a\n" + strings.Repeat("x", 1000000) + "\n"): api.ErrArchive,
		lineOf("dir /a\ndir /b\n"):                                        api.ErrArchive,
	} {
		l, e := Parse(summed(text))
		if e != want || e != api.OK && l != nil {
			t.Errorf("P24.3: Parse of %.99q and its sum: %v, %d, want %d", text, l, e, want)
		}
		if _, plain := plainParse(summed(text)); plain != want {
			t.Errorf("%.99q: the words done once more say %d, want %d", text, plain, want)
		}
	}
}

func TestSums(t *testing.T) {
	right := strings.TrimSuffix(strings.TrimPrefix(summed(body), body+"sum "), "\n")
	bad := strings.Replace(body, "/b", "/B", 1) // no archive: the sum counts ahead of that
	for line, want := range map[string]api.Errno{
		"sum " + right + "\n":                  api.OK,
		"sum " + strings.ToUpper(right) + "\n": api.ErrArchive,
		"sum " + right:                         api.ErrArchive,
		"sum " + right + "\r\n":                api.ErrArchive,
		"sum " + right + " \n":                 api.ErrArchive,
		"sum  " + right + "\n":                 api.ErrArchive,
		"sum\n":                                api.ErrArchive,
		"Sum " + right + "\n":                  api.ErrArchive,
		"\nsum " + right + "\n":                api.ErrArchive,
		"sum " + right[1:] + "\n":              api.ErrArchive,
		"sum " + right + "0\n":                 api.ErrArchive,
		"sum g" + right[1:] + "\n":             api.ErrArchive,
		"sum " + right + "\nx":                 api.ErrArchive,
		"sum " + right + "\n\n":                api.ErrArchive,
		"sum \n":                               api.ErrDigest,
		"sum " + right[2:] + "\n":              api.ErrDigest,
		"sum " + right[:62] + "\n":             api.ErrDigest,
		"sum " + right + "00\n":                api.ErrDigest,
		"sum " + right + right + "\n":          api.ErrDigest,
		"sum 00" + right[2:] + "\n":            api.ErrDigest,
		"sum " + right[:62] + "00\n":           api.ErrDigest,
	} {
		if _, e := Parse(body + line); e != want {
			t.Errorf("P24.3: the last line %q: %d, want %d", line, e, want)
		}
		if want != api.OK && want != api.ErrArchive {
			if _, e := Parse(bad + line); e != want {
				t.Errorf("P24.3: the last line %q of no archive: %d, want %d", line, e, want)
			}
		}
	}
	wantParse(t, summed(bad), nil, api.ErrEntry)
	wantParse(t, summed(bad)+"\n", nil, api.ErrArchive)
}

// TestEveryByteCounts: of a text with one byte another one, or away, or one more, nothing is taken.
func TestEveryByteCounts(t *testing.T) {
	text := summed(body)
	for i := range len(text) {
		for _, other := range []string{text[:i] + string(rune(text[i]^1)) + text[i+1:], text[:i] + text[i+1:], text[:i] + "0" + text[i:], text[:i]} {
			l, e := Parse(other)
			if other == text {
				continue
			}
			if _, want := plainParse(other); e != want || e == api.OK || l != nil {
				t.Errorf("P24.3: Parse(%q) = %v, %d, want %d", other, l, e, want)
			}
		}
	}
}

// someEntries is an archive as a rule, of few names, with a thing here and there that is wrong.
func someEntries(r *rand.Rand) []api.Entry {
	names := []string{"a", "a!", "b", "a.", "0", "..", "é", "", "c d"}
	kinds := map[string]int{"": api.IsDir}
	paths := []string{""}
	var entries []api.Entry
	for range r.Intn(9) {
		up := paths[r.Intn(len(paths))]
		good := 5
		if r.Intn(40) == 0 {
			good = len(names)
		}
		p := up + "/" + names[r.Intn(good)]
		if kinds[p] != 0 {
			continue
		}
		e := dirEntry(p)
		if r.Intn(2) == 0 {
			e = fileEntry(p, strings.Repeat([]string{"x", "\n", "sum ", "\x00"}[r.Intn(4)], r.Intn(4)))
		}
		if r.Intn(60) == 0 {
			e.Kind = r.Intn(5) - 1
		}
		kinds[p] = e.Kind
		if e.Kind == api.IsDir || r.Intn(60) == 0 {
			paths = append(paths, p)
		}
		entries = append(entries, e)
	}
	slices.SortFunc(entries, func(a, b api.Entry) int { return strings.Compare(a.Path, b.Path) })
	if n := len(entries); n > 0 {
		switch i, j := r.Intn(n), r.Intn(n); r.Intn(12) {
		case 0:
			entries[i], entries[j] = entries[j], entries[i]
		case 1:
			entries = slices.Delete(entries, i, i+1)
		case 2:
			entries = slices.Insert(entries, i, entries[i])
		}
	}
	return entries
}

// spoilt is a text with some bytes other ones, or none at all.
func spoilt(r *rand.Rand, text string) string {
	b := []byte(text)
	for range r.Intn(3) {
		i := r.Intn(len(b) + 1)
		c := "0159 /\nadefs\x00\xff"[r.Intn(14)]
		switch {
		case r.Intn(3) == 0:
			b = slices.Insert(b, i, c)
		case i == len(b):
		case r.Intn(2) == 0:
			b = slices.Delete(b, i, i+1)
		default:
			b[i] = c
		}
	}
	return string(b)
}

// TestInStepWithTheWords holds Print and Parse against the chapter's words, done once more, at many lists and texts.
func TestInStepWithTheWords(t *testing.T) {
	r := rand.New(rand.NewSource(24))
	codes := map[string]int{}
	for range 20000 {
		entries := someEntries(r)
		s, e := Print(entries)
		if want, code := plainPrint(entries); s != want || e != code {
			t.Fatalf("P24.2: Print(%v) = %q, %d, want %q, %d", entries, s, e, want, code)
		}
		codes["print "+strconv.Itoa(int(e))]++
		text := spoilt(r, bodyOf(entries))
		if r.Intn(4) > 0 {
			text = summed(text)
		} else {
			text = spoilt(r, summed(text))
		}
		l, e := Parse(text)
		want, code := plainParse(text)
		if !slices.Equal(l, want) || e != code {
			t.Fatalf("P24.3: Parse(%q) = %v, %d, want %v, %d", text, l, e, want, code)
		}
		if back, e := Print(l); code == api.OK && (back != text || e != api.OK) {
			t.Fatalf("P24.3: Print of Parse(%q) = %q, %d", text, back, e)
		}
		codes["parse "+strconv.Itoa(int(e))]++
	}
	for _, k := range []string{"print 0", "print 242", "parse 0", "parse 240", "parse 241", "parse 242"} {
		if codes[k] < 100 {
			t.Errorf("%s came up %d times", k, codes[k])
		}
	}
}
