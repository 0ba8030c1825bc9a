package index

import (
	"bytes"
	"encoding/binary"
	"fmt"
	"math"
	"math/rand"
	"slices"
	"strings"
	"sync"
	"testing"

	"casket/api"
	"casket/pool"
	"casket/tree"
)

// F of the document's examples.
func configF() api.Config {
	return api.Config{Slots: 2, Files: 3, Dirs: 2, MaxFile: 100, Least: 16, Page: 256}
}

// greatest has room for as much as may be.
func greatest() api.Config {
	return api.Config{Slots: 64, Files: 65536, Dirs: 4096, MaxFile: 65536, Least: 65536, Page: 65536}
}

// told is sixteen bytes of a letter.
func told(letter string) string { return strings.Repeat(letter, 16) }

func zeros(n int) string { return strings.Repeat("\x00", n) }

func dir(number, parent int, name string) api.Node {
	return api.Node{Kind: 1, Number: number, Parent: parent, Name: name}
}

func file(number, parent int, name string, size int) api.Node {
	return api.Node{Kind: 2, Number: number, Parent: parent, Name: name, Size: size}
}

func treeF(nodes ...api.Node) api.TreeState { return api.TreeState{Files: 3, Dirs: 2, Nodes: nodes} }

// poolF is example 3's five rows.
func poolF() api.PoolState {
	p := api.PoolState{Queue: []int{0, 1, 2, 3, 4}}
	for _, letter := range []string{"a", "b", "c", "d", "e"} {
		p.Objects = append(p.Objects, api.Object{Name: told(letter), Tag: told("t"), Bucket: 16, Owner: -1})
	}
	return p
}

func refsF() []api.Ref {
	return []api.Ref{{Name: told("a"), Tag: told("b")}, {Name: told("c"), Tag: told("d")}}
}

func sameTree(a, b api.TreeState) bool {
	return a.Files == b.Files && a.Dirs == b.Dirs && slices.Equal(a.Nodes, b.Nodes)
}

func samePool(a, b api.PoolState) bool {
	return slices.Equal(a.Objects, b.Objects) && slices.Equal(a.Queue, b.Queue)
}

func sameRoot(a, b api.Root) bool { return a.Config == b.Config && slices.Equal(a.Pages, b.Pages) }

func mustEncode(t *testing.T, c api.Config, x api.TreeState, p api.PoolState) []string {
	t.Helper()
	pages, e := Encode(c, x, p)
	if e != api.OK {
		t.Fatalf("Encode: %d", e)
	}
	return pages
}

// imageF is F's two bodies as one text.
func imageF(t *testing.T, x api.TreeState, p api.PoolState) string {
	t.Helper()
	pages := mustEncode(t, configF(), x, p)
	if len(pages) != 2 || len(pages[0]) != 251 || len(pages[1]) != 251 {
		t.Fatalf("Encode: %d pages", len(pages))
	}
	return pages[0] + pages[1]
}

func wantConfig(t *testing.T, c api.Config, pages int, fault api.Errno) {
	t.Helper()
	if e := Check(c); e != fault {
		t.Errorf("Check(%+v): %d, want %d", c, e, fault)
	}
	if n, e := Pages(c); n != pages || e != fault {
		t.Errorf("Pages(%+v): %d, %d, want %d, %d", c, n, e, pages, fault)
	}
}

func wantEncode(t *testing.T, what string, c api.Config, x api.TreeState, p api.PoolState, fault api.Errno) {
	t.Helper()
	if pages, e := Encode(c, x, p); e != fault || (len(pages) == 0) != (fault != api.OK) {
		t.Errorf("Encode, %s: %d pages, %d, want %d", what, len(pages), e, fault)
	}
}

func wantNoIndex(t *testing.T, what string, c api.Config, pages []string, fault api.Errno) {
	t.Helper()
	x, p, e := Decode(c, pages)
	if e != fault || !sameTree(x, api.TreeState{}) || !samePool(p, api.PoolState{}) {
		t.Errorf("Decode, %s: %+v, %+v, %d, want %d", what, x, p, e, fault)
	}
}

func wantIndex(t *testing.T, what string, c api.Config, pages []string, x api.TreeState, p api.PoolState) {
	t.Helper()
	y, q, e := Decode(c, pages)
	if e != api.OK || !sameTree(x, y) || !samePool(p, q) {
		t.Errorf("Decode, %s: %+v, %+v, %d, want %+v, %+v", what, y, q, e, x, p)
	}
}

func wantNoBody(t *testing.T, what string, c api.Config, r api.Root, fault api.Errno) {
	t.Helper()
	if s, e := EncodeRoot(c, r); s != "" || e != fault {
		t.Errorf("EncodeRoot, %s: %d bytes, %d, want %d", what, len(s), e, fault)
	}
}

func wantNoRoot(t *testing.T, what string, c api.Config, body string, fault api.Errno) {
	t.Helper()
	if r, e := DecodeRoot(c, body); e != fault || !sameRoot(r, api.Root{}) {
		t.Errorf("DecodeRoot, %s: %+v, %d, want %d", what, r, e, fault)
	}
}

// with is a text with other bytes in it.
func with(s string, at int, bytes string) string { return s[:at] + bytes + s[at+len(bytes):] }

func twoPages(s string) []string { return []string{s[:251], s[251:]} }

// What follows does the document's words once more, in one buffer and by the library's numbers, and reads byte by byte,
// refusing what may not stand at its place; the program is held against it.

func plainMayBe(c api.Config) bool {
	in := func(n, a, b int) bool { return a <= n && n <= b }
	if !in(c.Slots, 1, 64) || !in(c.Files, 1, 65536) || !in(c.Dirs, 0, 4096) || !in(c.MaxFile, 0, 65536) || !in(c.Least, 16, 65536) || !in(c.Page, 64, 65536) {
		return false
	}
	return plainPages(c) <= 1024
}

func plainImageSize(c api.Config) int { return 36*c.Dirs + 40*c.Files + 44*(c.Files+c.Slots) + 4 }

func plainPages(c api.Config) int {
	pages := 0
	for held := 0; held < plainImageSize(c); held += c.Page - 5 {
		pages++
	}
	return pages
}

func put(b *bytes.Buffer, n int) { binary.Write(b, binary.BigEndian, uint32(n)) }

func plainNode(b *bytes.Buffer, nodes []api.Node, kind, number int) int {
	for _, n := range nodes {
		if n.Kind == kind && n.Number == number {
			b.WriteByte(1)
			binary.Write(b, binary.BigEndian, uint16(n.Parent))
			b.WriteByte(byte(len(n.Name)))
			b.WriteString((n.Name + zeros(32))[:32])
			return n.Size
		}
	}
	b.WriteString(zeros(36))
	return 0
}

func plainEncode(c api.Config, x api.TreeState, p api.PoolState) []string {
	var b bytes.Buffer
	for number := 1; number <= c.Dirs; number++ {
		plainNode(&b, x.Nodes, 1, number)
	}
	for number := 0; number < c.Files; number++ {
		put(&b, plainNode(&b, x.Nodes, 2, number))
	}
	for _, o := range p.Objects {
		b.WriteString(o.Name + o.Tag)
		put(&b, o.Bucket)
		put(&b, o.Owner+1)
	}
	put(&b, len(p.Queue))
	for _, i := range p.Queue {
		put(&b, i)
	}
	for b.Len() < plainImageSize(c) {
		put(&b, 0)
	}
	var pages []string
	for b.Len() > 0 {
		pages = append(pages, (string(b.Next(c.Page-5)) + zeros(c.Page))[:c.Page-5])
	}
	return pages
}

func plainName(s string) bool {
	for _, b := range []byte(s) {
		if b < 33 || b > 126 || b == '/' {
			return false
		}
	}
	return s != "" && len(s) <= 32 && s != "." && s != ".."
}

// plainFits tells whether the tree's state fits, and whether the table's does.
func plainFits(c api.Config, x api.TreeState, p api.PoolState) (bool, bool) {
	fits := x.Files == c.Files && x.Dirs == c.Dirs
	for i, n := range x.Nodes {
		fits = fits && (n.Kind == 1 || n.Kind == 2) && n.Parent >= 0 && n.Parent <= c.Dirs && plainName(n.Name)
		if n.Kind == 1 {
			fits = fits && n.Number >= 1 && n.Number <= c.Dirs && n.Size == 0
		} else {
			fits = fits && n.Number >= 0 && n.Number < c.Files && n.Size >= 0 && n.Size <= c.MaxFile
		}
		if i > 0 {
			last := x.Nodes[i-1]
			fits = fits && (last.Kind < n.Kind || last.Kind == n.Kind && last.Number < n.Number)
		}
	}
	lies := len(p.Objects) == c.Files+c.Slots && len(p.Queue) <= c.Files+c.Slots
	for _, o := range p.Objects {
		lies = lies && len(o.Name) == 16 && len(o.Tag) == 16 && o.Bucket >= 0 && o.Bucket <= 1048576 && o.Owner >= -1 && o.Owner < c.Files
	}
	for _, i := range p.Queue {
		lies = lies && i >= 0 && i < c.Files+c.Slots
	}
	return fits, lies
}

type plainReader struct {
	left string
	bad  bool
}

func (r *plainReader) take(n int) string {
	s := r.left[:n]
	r.left = r.left[n:]
	return s
}

func (r *plainReader) number(size, most int) int {
	n := 0
	for _, b := range []byte(r.take(size)) {
		n = n*256 + int(b)
	}
	r.bad = r.bad || n > most
	return n
}

func (r *plainReader) blank(n int) { r.bad = r.bad || r.take(n) != zeros(n) }

func (r *plainReader) node(c api.Config, x *api.TreeState, kind, number int) {
	there := r.number(1, 1)
	n := api.Node{Kind: kind, Number: number, Parent: r.number(2, c.Dirs)}
	length := r.number(1, 32)
	name := r.take(32)
	if kind == 2 {
		n.Size = r.number(4, c.MaxFile)
	}
	if r.bad {
		return
	}
	n.Name = name[:length]
	if there == 0 {
		r.bad = n.Parent != 0 || length != 0 || name != zeros(32) || n.Size != 0
		return
	}
	r.bad = !plainName(n.Name) || name[length:] != zeros(32-length)
	x.Nodes = append(x.Nodes, n)
}

func plainDecode(c api.Config, pages []string) (api.TreeState, api.PoolState, bool) {
	x, p := api.TreeState{Files: c.Files, Dirs: c.Dirs}, api.PoolState{}
	if len(pages) != plainPages(c) || slices.ContainsFunc(pages, func(s string) bool { return len(s) != c.Page-5 }) {
		return x, p, false
	}
	r := &plainReader{left: strings.Join(pages, "")}
	for number := 1; number <= c.Dirs; number++ {
		r.node(c, &x, 1, number)
	}
	for number := 0; number < c.Files; number++ {
		r.node(c, &x, 2, number)
	}
	rows := c.Files + c.Slots
	for range rows {
		p.Objects = append(p.Objects, api.Object{Name: r.take(16), Tag: r.take(16), Bucket: r.number(4, 1048576), Owner: r.number(4, c.Files) - 1})
	}
	count := r.number(4, rows)
	for i := range rows {
		if i < count {
			p.Queue = append(p.Queue, r.number(4, rows-1))
		} else {
			r.blank(4)
		}
	}
	r.blank(len(r.left))
	return x, p, !r.bad
}

func plainRoot(r api.Root) string {
	var b bytes.Buffer
	b.WriteString("R")
	for _, n := range []int{r.Config.Slots, r.Config.Files, r.Config.Dirs, r.Config.MaxFile, r.Config.Least, r.Config.Page} {
		put(&b, n)
	}
	binary.Write(&b, binary.BigEndian, uint16(len(r.Pages)))
	for _, x := range r.Pages {
		b.WriteString(x.Name + x.Tag)
	}
	return b.String()
}

// Some of everything.

func someBytes(r *rand.Rand, n int) string {
	b := make([]byte, n)
	r.Read(b)
	return string(b)
}

func someName(r *rand.Rand) string {
	b := make([]byte, 1+r.Intn(32))
	for i := range b {
		b[i] = byte('0' + r.Intn(126-'0'+1))
	}
	return string(b)
}

func someConfig(r *rand.Rand) api.Config {
	return api.Config{Slots: 1 + r.Intn(4), Files: 1 + r.Intn(6), Dirs: r.Intn(5), MaxFile: r.Intn(65537), Least: 16 + r.Intn(65521), Page: 64 + r.Intn(300)}
}

func someStates(r *rand.Rand, c api.Config) (api.TreeState, api.PoolState) {
	x := api.TreeState{Files: c.Files, Dirs: c.Dirs}
	for number := 1; number <= c.Dirs; number++ {
		if r.Intn(2) == 0 {
			x.Nodes = append(x.Nodes, dir(number, r.Intn(c.Dirs+1), someName(r)))
		}
	}
	for number := range c.Files {
		if r.Intn(2) == 0 {
			x.Nodes = append(x.Nodes, file(number, r.Intn(c.Dirs+1), someName(r), r.Intn(c.MaxFile+1)))
		}
	}
	var p api.PoolState
	for range c.Files + c.Slots {
		p.Objects = append(p.Objects, api.Object{Name: someBytes(r, 16), Tag: someBytes(r, 16), Bucket: r.Intn(1048577), Owner: r.Intn(c.Files+1) - 1})
	}
	for range r.Intn(c.Files + c.Slots + 1) {
		p.Queue = append(p.Queue, r.Intn(c.Files+c.Slots))
	}
	return x, p
}

func someFar(r *rand.Rand, around ...int) int {
	return append([]int{-2, -1, 0, 1, 2, math.MinInt, math.MaxInt, 1 << 32}, around...)[r.Intn(8+len(around))]
}

// spoilStates changes one thing; it may be one that may be so.
func spoilStates(r *rand.Rand, c api.Config, x *api.TreeState, p *api.PoolState) {
	if len(x.Nodes) > 0 {
		i := r.Intn(len(x.Nodes))
		n := &x.Nodes[i]
		switch r.Intn(12) {
		case 0:
			n.Kind = someFar(r, 3)
		case 1:
			n.Number = someFar(r, c.Dirs, c.Dirs+1, c.Files-1, c.Files)
		case 2:
			n.Parent = someFar(r, c.Dirs, c.Dirs+1)
		case 3:
			n.Name = []string{"", ".", "..", "...", "a/b", "a b", "a\x7f", "\x00", strings.Repeat("n", 32), strings.Repeat("n", 33)}[r.Intn(10)]
		case 4:
			n.Size = someFar(r, c.MaxFile, c.MaxFile+1)
		case 5:
			j := r.Intn(len(x.Nodes))
			x.Nodes[i], x.Nodes[j] = x.Nodes[j], x.Nodes[i]
		case 6:
			x.Nodes = append(x.Nodes, *n)
		}
	}
	i := r.Intn(len(p.Objects))
	o := &p.Objects[i]
	switch r.Intn(20) {
	case 0:
		x.Files = someFar(r, c.Files, c.Files+1)
	case 1:
		x.Dirs = someFar(r, c.Dirs, c.Dirs+1)
	case 2:
		o.Name = someBytes(r, 15+r.Intn(3))
	case 3:
		o.Tag = someBytes(r, 15+r.Intn(3))
	case 4:
		o.Bucket = someFar(r, 1048576, 1048577)
	case 5:
		o.Owner = someFar(r, c.Files-1, c.Files)
	case 6:
		p.Objects = slices.Delete(p.Objects, i, i+1)
	case 7:
		p.Objects = append(p.Objects, *o)
	case 8:
		p.Queue = append(p.Queue, someFar(r, c.Files+c.Slots-1, c.Files+c.Slots))
	case 9:
		p.Queue = make([]int, c.Files+c.Slots+r.Intn(2))
	}
}

// P14.2, P14.3

func TestTheExamplesConfigurations(t *testing.T) {
	wantConfig(t, configF(), 2, api.OK)
	for what, c := range map[string]struct {
		turn  func(c *api.Config)
		pages int
	}{
		"Slots 0":      {func(c *api.Config) { c.Slots = 0 }, 0},
		"Slots 65":     {func(c *api.Config) { c.Slots = 65 }, 0},
		"Files 0":      {func(c *api.Config) { c.Files = 0 }, 0},
		"Dirs 4097":    {func(c *api.Config) { c.Dirs = 4097 }, 0},
		"MaxFile -1":   {func(c *api.Config) { c.MaxFile = -1 }, 0},
		"Least 15":     {func(c *api.Config) { c.Least = 15 }, 0},
		"Page 63":      {func(c *api.Config) { c.Page = 63 }, 0},
		"Page 421":     {func(c *api.Config) { c.Page = 421 }, 1},
		"Page 420":     {func(c *api.Config) { c.Page = 420 }, 2},
		"many files":   {func(c *api.Config) { c.Slots, c.Files, c.Dirs, c.Page = 1, 65536, 0, 64 }, 0},
		"just enough":  {func(c *api.Config) { c.Slots, c.Files, c.Dirs, c.Page = 1, 65536, 0, 5382 }, 1024},
		"one too many": {func(c *api.Config) { c.Slots, c.Files, c.Dirs, c.Page = 1, 65536, 0, 5381 }, 0},
	} {
		x := configF()
		c.turn(&x)
		fault := api.OK
		if c.pages == 0 {
			fault = api.ErrConfig
		}
		t.Run(what, func(t *testing.T) { wantConfig(t, x, c.pages, fault) })
	}
}

// fields are a configuration's numbers, each with its limits.
var fields = []struct {
	name        string
	of          func(c *api.Config) *int
	least, most int
}{
	{"Slots", func(c *api.Config) *int { return &c.Slots }, 1, 64},
	{"Files", func(c *api.Config) *int { return &c.Files }, 1, 65536},
	{"Dirs", func(c *api.Config) *int { return &c.Dirs }, 0, 4096},
	{"MaxFile", func(c *api.Config) *int { return &c.MaxFile }, 0, 65536},
	{"Least", func(c *api.Config) *int { return &c.Least }, 16, 65536},
	{"Page", func(c *api.Config) *int { return &c.Page }, 64, 65536},
}

// Pages of the greatest size, so that it is the number's own limits that are met.
func TestLimitsOfAConfiguration(t *testing.T) {
	for _, f := range fields {
		for _, base := range []api.Config{configF(), greatest()} {
			if f.name != "Page" {
				base.Page = 65536
			} else {
				base.Files = 3
				base.Dirs = 2
			}
			for _, n := range []int{f.least, f.least + 1, f.most - 1, f.most} {
				*f.of(&base) = n
				wantConfig(t, base, plainPages(base), api.OK)
			}
			for _, n := range []int{f.least - 1, f.most + 1, -1 << 32, 1 << 32, math.MinInt, math.MaxInt} {
				*f.of(&base) = n
				wantConfig(t, base, 0, api.ErrConfig)
			}
		}
	}
	wantConfig(t, greatest(), 87, api.OK)
	wantConfig(t, api.Config{Slots: 1, Files: 1, Least: 16, Page: 64}, 3, api.OK)
	wantConfig(t, api.Config{}, 0, api.ErrConfig)
}

func TestConfigurationsAtRandom(t *testing.T) {
	r := rand.New(rand.NewSource(141))
	taken, refused := 0, 0
	for range 20000 {
		c := api.Config{Slots: r.Intn(66), Files: r.Intn(1 << r.Intn(18)), Dirs: r.Intn(1 << r.Intn(14)), MaxFile: r.Intn(1000), Least: 14 + r.Intn(100), Page: 60 + r.Intn(1<<r.Intn(17))}
		pages, fault := 0, api.ErrConfig
		refused++
		if plainMayBe(c) {
			pages, fault = plainPages(c), api.OK
			refused--
			taken++
		}
		wantConfig(t, c, pages, fault)
	}
	if taken < 1000 || refused < 1000 {
		t.Errorf("%d were taken, %d refused: too few to say something", taken, refused)
	}
}

// P14.4

func TestTheExamplesImages(t *testing.T) {
	rows := ""
	for _, letter := range []string{"a", "b", "c", "d", "e"} {
		rows += told(letter) + told("t") + "\x00\x00\x00\x10\x00\x00\x00\x00"
	}
	queue := "\x00\x00\x00\x05" + "\x00\x00\x00\x00" + "\x00\x00\x00\x01" + "\x00\x00\x00\x02" + "\x00\x00\x00\x03" + "\x00\x00\x00\x04"
	s := imageF(t, treeF(), poolF())
	if want := zeros(192) + rows + queue + zeros(502-416); s != want {
		t.Errorf("an empty tree: %q, want %q", s, want)
	}
	if want := zeros(192) + told("a") + told("t") + "\x00\x00\x00\x10\x00\x00\x00\x00" + told("b") + "ttt"; s[:251] != want {
		t.Errorf("example 3: %q, want %q", s[:251], want)
	}
	s = imageF(t, treeF(dir(2, 0, "d")), poolF())
	if want := zeros(36) + "\x01\x00\x00\x01d" + zeros(31+120) + rows + queue + zeros(86); s != want {
		t.Errorf("example 4: %q, want %q", s, want)
	}
	s = imageF(t, treeF(file(0, 2, "x", 100)), poolF())
	if want := zeros(72) + "\x01\x00\x02\x01x" + zeros(31) + "\x00\x00\x00\x64" + zeros(80) + rows + queue + zeros(86); s != want {
		t.Errorf("example 5: %q, want %q", s, want)
	}
}

func TestTheHighestByteIsFirst(t *testing.T) {
	c := api.Config{Slots: 1, Files: 65536, Dirs: 4096, MaxFile: 65536, Least: 16, Page: 65536}
	x := api.TreeState{Files: c.Files, Dirs: c.Dirs, Nodes: []api.Node{dir(4095, 0x1000, "d"), file(65535, 0x0102, "f", 0x010000)}}
	x.Nodes[1].Size = 0xfedc
	var p api.PoolState
	for range 65537 {
		p.Objects = append(p.Objects, api.Object{Name: told("n"), Tag: told("t"), Bucket: 0x0ABCDE, Owner: 0xABCD})
	}
	p.Queue = []int{0x010000, 0x00fffe}
	s := strings.Join(mustEncode(t, c, x, p), "")
	objects := 36*4096 + 40*65536
	for at, want := range map[int]string{
		36 * 4094:               "\x01\x10\x00\x01d" + zeros(31),
		36*4096 + 40*65535:      "\x01\x01\x02\x01f" + zeros(31) + "\x00\x00\xfe\xdc",
		objects:                 told("n") + told("t") + "\x00\x0a\xbc\xde\x00\x00\xab\xce" + told("n"),
		objects + 40*65537:      "\x00\x00\x00\x02\x00\x01\x00\x00\x00\x00\xff\xfe\x00\x00\x00\x00",
		len(s) - 4:              zeros(4),
		36*4096 + 40*65535 - 40: zeros(40),
	} {
		if got := s[at:][:len(want)]; got != want {
			t.Errorf("byte %d: %q, want %q", at, got, want)
		}
	}
	wantIndex(t, "great numbers", c, mustEncode(t, c, x, p), x, p)
	x.Nodes[1].Size = 65536
	if s := strings.Join(mustEncode(t, c, x, p), ""); s[36*4096+40*65535+36:][:4] != "\x00\x01\x00\x00" {
		t.Errorf("the greatest size: %q", s[36*4096+40*65535+36:][:4])
	}
}

func TestTreesThatDoNotFit(t *testing.T) {
	long := strings.Repeat("n", 32)
	for what, x := range map[string]api.TreeState{
		"no node":           treeF(),
		"all numbers":       treeF(dir(1, 0, "d"), dir(2, 0, "d"), file(0, 0, "f", 0), file(1, 0, "f", 0), file(2, 0, "f", 0)),
		"a long name":       treeF(dir(2, 2, long), file(2, 2, long, 100)),
		"no tree, but fits": treeF(dir(1, 2, "x"), dir(2, 1, "x"), file(1, 2, "x", 0), file(2, 2, "x", 0)),
	} {
		wantEncode(t, what, configF(), x, poolF(), api.OK)
	}
	for what, x := range map[string]api.TreeState{
		"nothing":                      {},
		"other Files":                  {Files: 2, Dirs: 2},
		"more Files":                   {Files: 4, Dirs: 2},
		"other Dirs":                   {Files: 3, Dirs: 1},
		"more Dirs":                    {Files: 3, Dirs: 3},
		"a size of 101":                treeF(file(0, 0, "x", 101)),
		"a size of -1":                 treeF(file(0, 0, "x", -1)),
		"the file 3":                   treeF(file(3, 0, "x", 0)),
		"the file -1":                  treeF(file(-1, 0, "x", 0)),
		"the parent 3":                 treeF(file(0, 3, "x", 0)),
		"the parent -1":                treeF(file(0, -1, "x", 0)),
		"a directory's parent 3":       treeF(dir(1, 3, "x")),
		"a directory's parent -1":      treeF(dir(1, -1, "x")),
		"no name":                      treeF(file(0, 0, "", 0)),
		"a directory without a name":   treeF(dir(1, 0, "")),
		"a name of 33 bytes":           treeF(dir(1, 0, long+"n")),
		"a name ..":                    treeF(dir(1, 0, "..")),
		"a name with a /":              treeF(file(0, 0, "a/b", 0)),
		"a name with a zero":           treeF(file(0, 0, "a\x00", 0)),
		"the root":                     treeF(dir(0, 0, "d")),
		"the directory 3":              treeF(dir(3, 0, "d")),
		"a directory's size":           treeF(api.Node{Kind: 1, Number: 1, Name: "d", Size: 1}),
		"a directory's size below 0":   treeF(api.Node{Kind: 1, Number: 1, Name: "d", Size: -1}),
		"the kind 0":                   treeF(api.Node{Kind: 0, Number: 1, Name: "d"}),
		"the kind 3":                   treeF(api.Node{Kind: 3, Number: 1, Name: "d"}),
		"the kind -1":                  treeF(api.Node{Kind: -1, Number: 1, Name: "d"}),
		"a file ahead of a directory":  treeF(file(0, 0, "x", 0), dir(1, 0, "d")),
		"directories that fall":        treeF(dir(2, 0, "c"), dir(1, 0, "d")),
		"files that fall":              treeF(file(1, 0, "x", 0), file(0, 0, "y", 0)),
		"a directory twice":            treeF(dir(1, 0, "c"), dir(1, 0, "d")),
		"a file twice":                 treeF(file(1, 0, "x", 0), file(1, 0, "y", 0)),
		"the last node does not fit":   treeF(dir(1, 0, "d"), file(0, 0, "x", 0), file(2, 0, "y", 101)),
		"a file's number far too high": treeF(file(math.MaxInt, 0, "x", 0)),
		"a number far too low":         treeF(dir(math.MinInt, 0, "x")),
	} {
		wantEncode(t, what, configF(), x, poolF(), api.ErrTree)
		wantEncode(t, what+", and no pool", configF(), x, api.PoolState{}, api.ErrTree)
	}
	c := configF()
	c.Dirs = 0
	wantEncode(t, "no directory may be", c, api.TreeState{Files: 3, Nodes: []api.Node{dir(1, 0, "d")}}, poolF(), api.ErrTree)
	wantEncode(t, "no directory is", c, api.TreeState{Files: 3, Nodes: []api.Node{file(1, 0, "d", 0)}}, poolF(), api.OK)
	c.MaxFile = 0
	wantEncode(t, "an empty file", c, api.TreeState{Files: 3, Nodes: []api.Node{file(1, 0, "d", 0)}}, poolF(), api.OK)
	wantEncode(t, "a file with a byte", c, api.TreeState{Files: 3, Nodes: []api.Node{file(1, 0, "d", 1)}}, poolF(), api.ErrTree)
}

func TestPoolsThatDoNotFit(t *testing.T) {
	for what, turn := range map[string]func(p *api.PoolState){
		"no queue":              func(p *api.PoolState) { p.Queue = nil },
		"one number five times": func(p *api.PoolState) { p.Queue = []int{4, 4, 4, 4, 4} },
		"one name five times":   func(p *api.PoolState) { p.Objects = slices.Repeat(p.Objects[:1], 5) },
		"the greatest":          func(p *api.PoolState) { p.Objects[4].Bucket, p.Objects[4].Owner = 1048576, 2 },
		"one owner twice":       func(p *api.PoolState) { p.Objects[0].Owner, p.Objects[1].Owner, p.Objects[0].Bucket = 0, 0, 0 },
	} {
		p := poolF()
		turn(&p)
		wantEncode(t, what, configF(), treeF(), p, api.OK)
	}
	for what, turn := range map[string]func(p *api.PoolState){
		"nothing":               func(p *api.PoolState) { *p = api.PoolState{} },
		"four rows":             func(p *api.PoolState) { p.Objects, p.Queue = p.Objects[:4], nil },
		"six rows":              func(p *api.PoolState) { p.Objects = append(p.Objects, p.Objects[0]) },
		"a tag of 15 bytes":     func(p *api.PoolState) { p.Objects[4].Tag = told("t")[1:] },
		"a tag of 17 bytes":     func(p *api.PoolState) { p.Objects[4].Tag += "t" },
		"no tag":                func(p *api.PoolState) { p.Objects[4].Tag = "" },
		"a name of 15 bytes":    func(p *api.PoolState) { p.Objects[4].Name = told("t")[1:] },
		"a name of 17 bytes":    func(p *api.PoolState) { p.Objects[4].Name += "t" },
		"no name":               func(p *api.PoolState) { p.Objects[0].Name = "" },
		"15 and 17 bytes":       func(p *api.PoolState) { p.Objects[0].Name, p.Objects[0].Tag = told("t")[1:], told("t")+"t" },
		"a bucket below 0":      func(p *api.PoolState) { p.Objects[0].Bucket = -1 },
		"a bucket too great":    func(p *api.PoolState) { p.Objects[0].Bucket = 1048577 },
		"a bucket far too low":  func(p *api.PoolState) { p.Objects[0].Bucket = math.MinInt },
		"the owner 3":           func(p *api.PoolState) { p.Objects[0].Owner = 3 },
		"the owner -2":          func(p *api.PoolState) { p.Objects[0].Owner = -2 },
		"a queue of six":        func(p *api.PoolState) { p.Queue = append(p.Queue, 0) },
		"the number 5":          func(p *api.PoolState) { p.Queue[0] = 5 },
		"the number -1":         func(p *api.PoolState) { p.Queue[4] = -1 },
		"a number far too high": func(p *api.PoolState) { p.Queue[4] = math.MaxInt },
	} {
		p := poolF()
		turn(&p)
		wantEncode(t, what, configF(), treeF(), p, api.ErrPool)
		wantEncode(t, what+", and no tree", configF(), api.TreeState{}, p, api.ErrTree)
	}
}

// States at random, some of them spoilt: Encode takes just what the document's words take, and writes what they say.
func TestEncodeAtRandom(t *testing.T) {
	r := rand.New(rand.NewSource(144))
	count := map[api.Errno]int{}
	for range 20000 {
		c := someConfig(r)
		x, p := someStates(r, c)
		if r.Intn(2) == 0 {
			spoilStates(r, c, &x, &p)
		}
		fits, lies := plainFits(c, x, p)
		fault, want := api.OK, []string(nil)
		switch {
		case !fits:
			fault = api.ErrTree
		case !lies:
			fault = api.ErrPool
		default:
			want = plainEncode(c, x, p)
		}
		count[fault]++
		pages, e := Encode(c, x, p)
		if e != fault || !slices.Equal(pages, want) {
			t.Fatalf("Encode(%+v, %+v, %+v): %q, %d, want %q, %d", c, x, p, pages, e, want, fault)
		}
		if e == api.OK {
			wantIndex(t, "what Encode gave", c, pages, x, p)
		}
		if t.Failed() {
			return
		}
	}
	if count[api.OK] < 5000 || count[api.ErrTree] < 1000 || count[api.ErrPool] < 1000 {
		t.Errorf("too few to say something: %v", count)
	}
}

// P14.5

func TestTheExamplesSpoiltPages(t *testing.T) {
	c := configF()
	x, p := treeF(dir(2, 0, "d"), file(0, 2, "x", 100)), poolF()
	s := imageF(t, x, p)
	wantIndex(t, "what Encode gave", c, twoPages(s), x, p)
	for what, pages := range map[string][]string{
		"nothing":                     nil,
		"two empty pages":             {"", ""},
		"two short pages":             {s[:100], s[100:200]},
		"one page away":               {s[:251]},
		"the other page away":         {s[251:]},
		"one page more":               {s[:251], s[251:], zeros(251)},
		"an empty page more":          {s[:251], s[251:], ""},
		"one byte more":               {s[:251], s[251:] + "\x00"},
		"one byte more in front":      {s[:251] + "\x00", s[251:]},
		"one byte fewer":              {s[:251], s[251:501]},
		"one byte in the wrong page":  {s[:252], s[252:]},
		"the other one":               {s[:250], s[250:]},
		"all in one page":             {s},
		"all in the first page":       {s, ""},
		"the pages exchanged":         {s[251:], s[:251]},
		"behind the image":            twoPages(with(s, 416, "\x01")),
		"the last byte":               twoPages(with(s, 501, "\x80")),
		"a node's mark 2":             twoPages(with(s, 36, "\x02")),
		"a file's mark 255":           twoPages(with(s, 72, "\xff")),
		"a node's mark 0":             twoPages(with(s, 36, "\x00")),
		"a file's mark 0":             twoPages(with(s, 72, "\x00")),
		"a name's length 0":           twoPages(with(s, 39, "\x00")),
		"a name's length 2":           twoPages(with(s, 39, "\x02")),
		"a name's length 33":          twoPages(with(s, 39, "\x21")),
		"a name's length 255":         twoPages(with(s, 39, "\xff")),
		"a byte behind a name":        twoPages(with(s, 41, "\x01")),
		"the last byte behind a name": twoPages(with(s, 71, "\x01")),
		"behind a file's name":        twoPages(with(s, 107, "x")),
		"a name .":                    twoPages(with(s, 40, ".")),
		"a name with a blank":         twoPages(with(s, 40, " ")),
		"a parent 3":                  twoPages(with(s, 37, "\x00\x03")),
		"a parent 256":                twoPages(with(s, 37, "\x01\x00")),
		"a size of 101":               twoPages(with(s, 111, "\x65")),
		"a size far too great":        twoPages(with(s, 108, "\x80")),
		"a size without a file":       twoPages(with(s, 151, "\x01")),
		"a mark without a name":       twoPages(with(s, 0, "\x01")),
		"a parent without a mark":     twoPages(with(s, 2, "\x01")),
		"a name without a mark":       twoPages(with(s, 4, "d")),
		"a bucket of 2^20 + 1":        twoPages(with(s, 224, "\x00\x10\x00\x01")),
		"a bucket far too great":      twoPages(with(s, 224, "\xff\xff\xff\xff")),
		"the owner 3":                 twoPages(with(s, 231, "\x04")),
		"an owner far too great":      twoPages(with(s, 228, "\xff\xff\xff\xff")),
		"an owner of the 32nd bit":    twoPages(with(s, 228, "\x80\x00\x00\x00")),
		"six in the queue":            twoPages(with(s, 395, "\x06")),
		"far too many in the queue":   twoPages(with(s, 392, "\xff\xff\xff\xff")),
		"the 32nd bit of the queue":   twoPages(with(s, 392, "\x80\x00\x00\x05")),
		"four in the queue, and five": twoPages(with(s, 395, "\x04")),
		"row 5 in the queue":          twoPages(with(s, 399, "\x05")),
		"a row far too great":         twoPages(with(s, 396, "\xff\xff\xff\xff")),
	} {
		wantNoIndex(t, what, c, pages, api.ErrIndex)
	}
	p.Queue = []int{0, 1, 2, 3}
	wantIndex(t, "four in the queue", c, twoPages(with(s, 395, "\x04"+s[396:412]+"\x00\x00\x00\x00")), x, p)
	bad := c
	bad.Page = 63
	wantNoIndex(t, "no configuration", bad, nil, api.ErrConfig)
	wantNoIndex(t, "no configuration, but pages", bad, twoPages(s), api.ErrConfig)
	wantEncode(t, "no configuration", bad, x, p, api.ErrConfig)
	wantEncode(t, "no configuration, and nothing that fits", api.Config{Slots: -1}, api.TreeState{}, api.PoolState{}, api.ErrConfig)
}

func TestAnotherConfigurationsPages(t *testing.T) {
	pages := mustEncode(t, configF(), treeF(), poolF())
	for _, turn := range []func(c *api.Config){func(c *api.Config) { c.Files++ }, func(c *api.Config) { c.Slots-- }, func(c *api.Config) { c.Dirs++ }, func(c *api.Config) { c.Page++ }} {
		c := configF()
		turn(&c)
		wantNoIndex(t, "another configuration", c, pages, api.ErrIndex)
	}
	c := configF()
	c.Least = 17
	wantIndex(t, "another least bucket, of which the pages say nothing", c, pages, treeF(), poolF())
}

// Pages at random, some of their bytes changed: Decode takes just what is read without a fault byte by byte.
func TestDecodeAtRandom(t *testing.T) {
	r := rand.New(rand.NewSource(145))
	taken, refused := 0, 0
	for range 60000 {
		c := someConfig(r)
		pages := somePages(r, c)
		for range 1 + r.Intn(2) {
			spoilPages(r, pages)
		}
		x, p, ok := plainDecode(c, pages)
		if ok {
			taken++
			wantIndex(t, fmt.Sprintf("%+v, %q", c, pages), c, pages, x, p)
			if again := mustEncode(t, c, x, p); !slices.Equal(again, pages) {
				t.Errorf("Encode behind Decode: %q, want %q", again, pages)
			}
		} else {
			refused++
			wantNoIndex(t, fmt.Sprintf("%+v, %q", c, pages), c, pages, api.ErrIndex)
		}
		if t.Failed() {
			return
		}
	}
	if taken < 5000 || refused < 5000 {
		t.Errorf("%d were taken, %d refused: too few to say something", taken, refused)
	}
}

func somePages(r *rand.Rand, c api.Config) []string {
	x, p := someStates(r, c)
	return plainEncode(c, x, p)
}

// spoilPages changes a byte to one near it, or to any.
func spoilPages(r *rand.Rand, pages []string) {
	i := r.Intn(len(pages))
	at := r.Intn(len(pages[i]))
	b := pages[i][at] + byte(1-2*r.Intn(2))
	if r.Intn(3) == 0 {
		b = byte(r.Intn(256))
	}
	pages[i] = with(pages[i], at, string([]byte{b}))
}

// P14.6, P14.7

func TestTheExamplesRoots(t *testing.T) {
	c := configF()
	root := api.Root{Config: c, Pages: refsF()}
	want := "\x52\x00\x00\x00\x02\x00\x00\x00\x03\x00\x00\x00\x02\x00\x00\x00\x64\x00\x00\x00\x10\x00\x00\x01\x00\x00\x02" + told("a") + told("b") + told("c") + told("d")
	s, e := EncodeRoot(c, root)
	if s != want || e != api.OK || len(s) != 91 {
		t.Errorf("EncodeRoot: %q, %d, want %q", s, e, want)
	}
	if r, e := DecodeRoot(c, want); !sameRoot(r, root) || e != api.OK {
		t.Errorf("DecodeRoot: %+v, %d", r, e)
	}
	for what, refs := range map[string][]api.Ref{
		"no ref":                 nil,
		"one ref":                refsF()[:1],
		"three refs":             append(refsF(), refsF()[0]),
		"a name of 15 bytes":     {refsF()[0], {Name: told("a")[1:], Tag: told("b")}},
		"a name of 17 bytes":     {{Name: told("a") + "a", Tag: told("b")}, refsF()[0]},
		"no tag":                 {refsF()[0], {Name: told("a")}},
		"a tag of 17 bytes":      {refsF()[0], {Name: told("a"), Tag: told("b") + "b"}},
		"one byte wanders":       {refsF()[0], {Name: told("a")[1:], Tag: told("b") + "b"}},
		"three, one of them bad": {refsF()[0], {}, refsF()[1]},
	} {
		wantNoBody(t, what, c, api.Root{Config: c, Pages: refs}, api.ErrIndex)
		wantNoBody(t, what+", of another configuration", c, api.Root{Pages: refs}, api.ErrConfig)
	}
	for what, body := range map[string]string{
		"nothing":                  "",
		"a mark alone":             "R",
		"the head alone":           want[:27],
		"most of the head":         want[:26],
		"90 bytes":                 want[:90],
		"92 bytes":                 want + "\x00",
		"three refs":               want + want[27:59],
		"one ref":                  want[:59],
		"another mark":             "\x53" + want[1:],
		"no mark":                  "\x00" + want[1:],
		"Least 0":                  with(want, 20, "\x00"),
		"Least 15":                 with(want, 20, "\x0f"),
		"a great Least":            with(want, 17, "\x80"),
		"Slots 0":                  with(want, 4, "\x00"),
		"Slots 2^32 - 1":           with(want, 1, "\xff\xff\xff\xff"),
		"Page 63":                  with(want, 23, "\x00\x3f"),
		"Page 421, so one page":    with(want, 23, "\x01\xa5"),
		"three pages":              with(want, 26, "\x03"),
		"one page":                 with(want, 26, "\x01"),
		"258 pages":                with(want, 25, "\x01"),
		"all zeros":                zeros(91),
		"a head, and pages to 421": with(want, 23, "\x01\xa5")[:59],
	} {
		wantNoRoot(t, what, c, body, api.ErrIndex)
	}
}

func TestRootsOfOtherConfigurations(t *testing.T) {
	c := configF()
	root := api.Root{Config: c, Pages: refsF()}
	body, _ := EncodeRoot(c, root)
	for _, f := range fields {
		other := c
		*f.of(&other)++
		wantNoBody(t, f.name, other, root, api.ErrConfig)
		wantNoRoot(t, f.name, other, body, api.ErrConfig)
		wantNoRoot(t, f.name+", and no root", other, body[1:], api.ErrIndex)
		*f.of(&other) = f.least - 1
		wantNoBody(t, f.name+" too low", other, api.Root{Config: other, Pages: refsF()}, api.ErrConfig)
		wantNoBody(t, f.name+" too low in the root", c, api.Root{Config: other, Pages: refsF()}, api.ErrConfig)
		wantNoRoot(t, f.name+" too low", other, body, api.ErrConfig)
		wantNoRoot(t, f.name+" too low, and no root", other, "", api.ErrConfig)
		low := plainRoot(api.Root{Config: other, Pages: refsF()})
		wantNoRoot(t, f.name+" too low in the body", c, low, api.ErrIndex)
	}
	other := c
	other.Page = 64
	ten := api.Root{Config: other, Pages: slices.Repeat(refsF(), 4)}
	body, e := EncodeRoot(other, ten)
	if e != api.OK || body != plainRoot(ten) || len(body) != 27+32*8 {
		t.Errorf("EncodeRoot of eight pages: %q, %d", body, e)
	}
	wantNoRoot(t, "a root of eight pages", c, body, api.ErrConfig)
	wantNoRoot(t, "a page fewer", c, body[:len(body)-32], api.ErrIndex)
}

// Roots at random, some of their bytes changed: DecodeRoot takes just the bodies of roots.
func TestRootsAtRandom(t *testing.T) {
	r := rand.New(rand.NewSource(147))
	count := map[api.Errno]int{}
	for range 20000 {
		c := someConfig(r)
		root := api.Root{Config: c}
		for range plainPages(c) {
			root.Pages = append(root.Pages, api.Ref{Name: someBytes(r, 16), Tag: someBytes(r, 16)})
		}
		body, e := EncodeRoot(c, root)
		if e != api.OK || body != plainRoot(root) {
			t.Fatalf("EncodeRoot(%+v): %q, %d", root, body, e)
		}
		if r.Intn(2) == 0 {
			at := r.Intn(27)
			body = with(body, at, string([]byte{byte(r.Intn(4))}))
		}
		number := func(at int) int { return int(binary.BigEndian.Uint32([]byte(body[at:]))) }
		read := api.Config{Slots: number(1), Files: number(5), Dirs: number(9), MaxFile: number(13), Least: number(17), Page: number(21)}
		fault, want := api.OK, api.Root{Config: c, Pages: root.Pages}
		if body[0] != 'R' || !plainMayBe(read) || plainPages(read) != len(root.Pages) || int(body[25])*256+int(body[26]) != len(root.Pages) {
			fault, want = api.ErrIndex, api.Root{}
		} else if read != c {
			fault, want = api.ErrConfig, api.Root{}
		}
		count[fault]++
		if got, e := DecodeRoot(c, body); e != fault || !sameRoot(got, want) {
			t.Fatalf("DecodeRoot(%+v, %q): %+v, %d, want %d", c, body, got, e, fault)
		}
	}
	if count[api.OK] < 5000 || count[api.ErrIndex] < 1000 || count[api.ErrConfig] < 1000 {
		t.Errorf("too few to say something: %v", count)
	}
}

// P14.8

func TestPagesHangOnTheConfigurationAlone(t *testing.T) {
	r := rand.New(rand.NewSource(148))
	for range 300 {
		c := someConfig(r)
		for range 10 {
			pages := mustEncode(t, c, first(someStates(r, c)), second(someStates(r, c)))
			if len(pages) != plainPages(c) || slices.ContainsFunc(pages, func(s string) bool { return len(s) != c.Page-5 }) {
				t.Fatalf("%+v: %d pages", c, len(pages))
			}
		}
	}
}

func first(x api.TreeState, _ api.PoolState) api.TreeState { return x }

func second(_ api.TreeState, p api.PoolState) api.PoolState { return p }

// The states that a tree and a pool give come back as they were, and are taken by these again.
func TestStatesOfTreeAndPool(t *testing.T) {
	x, _ := tree.New(3, 2, 100)
	for _, op := range []api.Op{{Kind: api.OpMkdir, Path: "/d"}, {Kind: api.OpCreate, Path: "/d/f"}, {Kind: api.OpWrite, Path: "/d/f", Data: "some"}, {Kind: api.OpMkdir, Path: "/d/e"}} {
		if result, _ := x.Do(op); result.Code != api.OK {
			t.Fatalf("Do: %d", result.Code)
		}
	}
	p, _ := pool.New(3, 2)
	for i := range 5 {
		p.Set(i, told(string(rune('a'+i))), told("t"), 16)
	}
	i, _ := p.Pop()
	p.Assign(i, 0)
	y, q, e := Decode(configF(), mustEncode(t, configF(), x.State(), p.State()))
	if e != api.OK || !sameTree(y, x.State()) || !samePool(q, p.State()) {
		t.Errorf("Decode: %+v, %+v, %d", y, q, e)
	}
	if _, e := tree.Load(y, 100); e != api.OK {
		t.Errorf("tree.Load: %d", e)
	}
	if _, e := pool.Load(q, 3, 2); e != api.OK {
		t.Errorf("pool.Load: %d", e)
	}
}

func TestTheGreatestIndex(t *testing.T) {
	c := greatest()
	x, p := api.TreeState{Files: c.Files, Dirs: c.Dirs}, api.PoolState{}
	long := strings.Repeat("~", 32)
	for number := 1; number <= c.Dirs; number++ {
		x.Nodes = append(x.Nodes, dir(number, number-1, long))
	}
	for number := range c.Files {
		x.Nodes = append(x.Nodes, file(number, 4096, long, 65536))
	}
	r := rand.New(rand.NewSource(149))
	for i := range c.Files + c.Slots {
		p.Objects = append(p.Objects, api.Object{Name: someBytes(r, 16), Tag: someBytes(r, 16), Bucket: 1048576, Owner: 65535})
		p.Queue = append(p.Queue, i)
	}
	pages := mustEncode(t, c, x, p)
	if len(pages) != 87 || len(pages[86]) != 65531 {
		t.Errorf("%d pages, the last of %d bytes", len(pages), len(pages[86]))
	}
	wantIndex(t, "the greatest", c, pages, x, p)
	x.Nodes, p.Queue = nil, nil
	pages = mustEncode(t, c, x, p)
	wantIndex(t, "the greatest, without a node", c, pages, x, p)

	many := api.Config{Slots: 1, Files: 65536, Least: 16, Page: 5382}
	root := api.Root{Config: many, Pages: slices.Repeat(refsF(), 512)}
	body, e := EncodeRoot(many, root)
	if e != api.OK || body != plainRoot(root) {
		t.Errorf("EncodeRoot of 1024 pages: %d bytes, %d", len(body), e)
	}
	if got, e := DecodeRoot(many, body); e != api.OK || !sameRoot(got, root) {
		t.Errorf("DecodeRoot of 1024 pages: %d", e)
	}
	wantNoRoot(t, "a long text", many, strings.Repeat(body, 100), api.ErrIndex)
}

// P14.1

// roomy is a list with spare room behind it, which holds what the list's first row is.
func roomy[R any](list []R) []R {
	room := make([]R, len(list), len(list)+3)
	copy(room, list)
	return append(append(room, list[0]), list[0])[:len(list)]
}

func behind[R any](list []R) []R { return list[:cap(list)] }

func TestWhatIsHandedInStays(t *testing.T) {
	x, p := treeF(dir(2, 0, "d"), file(0, 2, "x", 100)), poolF()
	x.Nodes, p.Objects, p.Queue = roomy(x.Nodes), roomy(p.Objects), roomy(p.Queue)
	nodes, objects, queue := slices.Clone(behind(x.Nodes)), slices.Clone(behind(p.Objects)), slices.Clone(behind(p.Queue))
	pages := roomy(mustEncode(t, configF(), x, p))
	first := slices.Clone(behind(pages))
	wantIndex(t, "with room", configF(), pages, x, p)
	if !slices.Equal(behind(x.Nodes), nodes) || !slices.Equal(behind(p.Objects), objects) || !slices.Equal(behind(p.Queue), queue) {
		t.Error("Encode wrote into what was handed in")
	}
	if !slices.Equal(behind(pages), first) {
		t.Error("Decode wrote into what was handed in")
	}
	refs := roomy(refsF())
	all := slices.Clone(behind(refs))
	if _, e := EncodeRoot(configF(), api.Root{Config: configF(), Pages: refs}); e != api.OK || !slices.Equal(behind(refs), all) {
		t.Errorf("EncodeRoot wrote into what was handed in: %d", e)
	}
}

// Two answers of one argument, all of their room: what is written into one does not show in the other.
func TestAnswersAreNewMemory(t *testing.T) {
	c, x, p := configF(), treeF(dir(2, 0, "d"), file(0, 2, "x", 100)), poolF()
	p.Queue = p.Queue[:3]
	pages, again := mustEncode(t, c, x, p), mustEncode(t, c, x, p)
	y, q, _ := Decode(c, pages)
	z, o, _ := Decode(c, pages)
	clear(behind(y.Nodes))
	clear(behind(q.Objects))
	clear(behind(q.Queue))
	if want := treeF(dir(2, 0, "d"), file(0, 2, "x", 100)); !sameTree(z, want) {
		t.Errorf("Decode: %+v, want %+v", z, want)
	}
	want := poolF()
	want.Queue = []int{0, 1, 2}
	if !samePool(o, want) {
		t.Errorf("Decode: %+v, want %+v", o, want)
	}
	clear(behind(pages))
	if !slices.Equal(again, plainEncode(c, x, want)) {
		t.Errorf("Encode: %q", again)
	}
	body := plainRoot(api.Root{Config: c, Pages: refsF()})
	r, _ := DecodeRoot(c, body)
	s, _ := DecodeRoot(c, body)
	clear(behind(r.Pages))
	if !slices.Equal(s.Pages, refsF()) {
		t.Errorf("DecodeRoot: %+v", s)
	}
}

func TestNilAndEmptyAreTheSame(t *testing.T) {
	p := poolF()
	p.Queue = nil
	want := mustEncode(t, configF(), treeF(), p)
	p.Queue = []int{}
	if got := mustEncode(t, configF(), api.TreeState{Files: 3, Dirs: 2, Nodes: []api.Node{}}, p); !slices.Equal(got, want) {
		t.Errorf("Encode: %q, want %q", got, want)
	}
	wantIndex(t, "no nodes, no queue", configF(), want, treeF(), p)
	wantEncode(t, "empty objects", configF(), treeF(), api.PoolState{Objects: []api.Object{}}, api.ErrPool)
	wantNoIndex(t, "no pages", configF(), []string{}, api.ErrIndex)
	wantNoBody(t, "no refs", configF(), api.Root{Config: configF(), Pages: []api.Ref{}}, api.ErrIndex)
}

func TestManyAtOnce(t *testing.T) {
	c, x, p := configF(), treeF(dir(2, 0, "d"), file(0, 2, "x", 100)), poolF()
	want, body := plainEncode(c, x, p), plainRoot(api.Root{Config: c, Pages: refsF()})
	var group sync.WaitGroup
	for range 16 {
		group.Go(func() {
			for range 50 {
				if pages, e := Encode(c, x, p); e != api.OK || !slices.Equal(pages, want) {
					t.Errorf("Encode: %d", e)
				}
				if y, q, e := Decode(c, want); e != api.OK || !sameTree(x, y) || !samePool(p, q) {
					t.Errorf("Decode: %d", e)
				}
				if r, e := DecodeRoot(c, body); e != api.OK || !slices.Equal(r.Pages, refsF()) {
					t.Errorf("DecodeRoot: %d", e)
				}
			}
		})
	}
	group.Wait()
}

func FuzzDecodeTakesWhatEncodeGives(f *testing.F) {
	c := configF()
	for _, x := range []api.TreeState{treeF(), treeF(dir(2, 0, "d"), file(0, 2, "x", 100))} {
		f.Add(strings.Join(plainEncode(c, x, poolF()), ""))
	}
	f.Fuzz(func(t *testing.T, s string) {
		pages := []string{s}
		if len(s) >= 251 {
			pages = twoPages(s)
		}
		x, p, ok := plainDecode(c, pages)
		if !ok {
			wantNoIndex(t, "fuzzed", c, pages, api.ErrIndex)
			return
		}
		wantIndex(t, "fuzzed", c, pages, x, p)
	})
}
