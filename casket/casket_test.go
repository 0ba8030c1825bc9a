package casket

import (
	"encoding/hex"
	"math"
	"math/rand"
	"reflect"
	"slices"
	"strconv"
	"strings"
	"sync"
	"testing"

	"casket/api"
	"casket/audit"
	"casket/leak"
	"casket/script"
	"casket/seal"
	"casket/sim"
	"casket/world"
)

// six is the configuration F of DOC.md: 2 slots, 5 rows, 2 pages.
func six() api.Config {
	return api.Config{Slots: 2, Files: 3, Dirs: 2, MaxFile: 100, Least: 16, Page: 256}
}

// What F asks of the tape over the ideal sealer: a Format, and a batch whose buckets are all 16.
const (
	formatBytes = 1120
	batchBytes  = 904
)

// objects is how many there are in F's store.
const objects = 8

// someBytes is a text of that many bytes in which no sixteen come twice.
func someBytes(n int) string {
	r, b := rand.New(rand.NewSource(int64(n))), make([]byte, n)
	r.Read(b)
	return string(b)
}

var master = strings.Repeat("k", 32)

// playOf is a play without acts, over either sealer.
func playOf(c api.Config, ideal bool, tape string) api.Play {
	p := api.Play{Config: c, Ideal: ideal, Tape: tape}
	if !ideal {
		p.Master = master
	}
	return p
}

var longTape = someBytes(60000)

func mustNew(t *testing.T, p api.Play) *Machine {
	t.Helper()
	m, e := New(p)
	if m == nil || e != api.OK {
		t.Fatalf("New: %v, %d", m, e)
	}
	return m
}

func mustLoad(t *testing.T, p api.Play, blobs []api.Blob, r api.Register, table []api.Sealed) *Machine {
	t.Helper()
	m, e := Load(p, blobs, r, table)
	if m == nil || e != api.OK {
		t.Fatalf("Load: %v, %d", m, e)
	}
	return m
}

// made is a machine over F whose vault was made and taken up.
func made(t *testing.T, ideal bool) *Machine {
	t.Helper()
	m := mustNew(t, playOf(six(), ideal, longTape))
	wantCode(t, m, actOf(api.ActFormat), api.OK)
	wantCode(t, m, actOf(api.ActRecover), api.OK)
	return m
}

func bothSealers(t *testing.T, test func(t *testing.T, ideal bool)) {
	t.Helper()
	t.Run("ideal", func(t *testing.T) { test(t, true) })
	t.Run("real", func(t *testing.T) { test(t, false) })
}

func actOf(kind int) api.Act              { return api.Act{Kind: kind} }
func batchOf(ops ...api.Op) api.Act       { return api.Act{Kind: api.ActBatch, Ops: ops} }
func fuseOf(i int) api.Act                { return api.Act{Kind: api.ActFuse, I: i} }
func editOf(e api.Edit) api.Act           { return api.Act{Kind: api.ActEdit, Edit: e} }
func mkdir(path string) api.Op            { return api.Op{Kind: api.OpMkdir, Path: path} }
func create(path string) api.Op           { return api.Op{Kind: api.OpCreate, Path: path} }
func stat(path string) api.Op             { return api.Op{Kind: api.OpStat, Path: path} }
func list(path string) api.Op             { return api.Op{Kind: api.OpList, Path: path} }
func read(path string, n int) api.Op      { return api.Op{Kind: api.OpRead, Path: path, N: n} }
func write(path, data string) api.Op      { return api.Op{Kind: api.OpWrite, Path: path, Data: data} }
func remove(path string) api.Op           { return api.Op{Kind: api.OpRemove, Path: path} }
func rename(path, to string) api.Op       { return api.Op{Kind: api.OpRename, Path: path, To: to} }
func putEdit(kind, put, from int) api.Act { return editOf(api.Edit{Kind: kind, Put: put, From: from}) }

func wantCode(t *testing.T, m *Machine, a api.Act, want api.Errno) {
	t.Helper()
	if x := m.Do(a); x.Code != want || want != api.OK && len(x.Results) > 0 {
		t.Fatalf("Do(%+v): %+v, want the code %d", a, x, want)
	}
}

// wantNoCall is an act that is refused, or done, without a store call, a byte of the tape, or another register.
func wantNoCall(t *testing.T, m *Machine, a api.Act, want api.Errno) {
	t.Helper()
	was, register := m.Look(), m.Register()
	wantCode(t, m, a, want)
	is := m.Look()
	if is.Calls != was.Calls || is.Left != was.Left || is.Stored != was.Stored || m.Register() != register {
		t.Fatalf("Do(%+v): %+v behind %+v, want no call", a, is, was)
	}
}

func sameCall(a, b api.Call) bool {
	return a.Kind == b.Kind && a.Name == b.Name && a.Blob == b.Blob && a.Code == b.Code && a.Reply == b.Reply && slices.Equal(a.Names, b.Names)
}

func sameCalls(a, b []api.Call) bool { return slices.EqualFunc(a, b, sameCall) }

func sameAudit(a, b api.Audit) bool {
	buckets := slices.Equal(a.Buckets, b.Buckets)
	a.Buckets, b.Buckets = nil, nil
	return buckets && reflect.DeepEqual(a, b)
}

// wantSame is two machines of which all that is seen is the same.
func wantSame(t *testing.T, what string, a, b *Machine) {
	t.Helper()
	x, e := a.Audit()
	y, f := b.Audit()
	switch {
	case a.Look() != b.Look():
		t.Fatalf("%s: Look %+v, want %+v", what, a.Look(), b.Look())
	case !sameCalls(a.Trace(), b.Trace()):
		t.Fatalf("%s: another trace", what)
	case !slices.Equal(a.Store(), b.Store()):
		t.Fatalf("%s: another store", what)
	case a.Register() != b.Register():
		t.Fatalf("%s: another register", what)
	case !slices.Equal(a.Table(), b.Table()):
		t.Fatalf("%s: another table", what)
	case e != f || !sameAudit(x, y):
		t.Fatalf("%s: another audit", what)
	}
}

// letters is calls: a letter each, and a star behind those of the root.
func letters(calls []api.Call) string {
	var b strings.Builder
	for _, c := range calls {
		b.WriteByte(" GPDL"[c.Kind])
		if c.Name == api.RootName {
			b.WriteByte('*')
		}
	}
	return b.String()
}

// Of layer 23 the examples of DOC.md's section 'Ten examples of the whole'.

// playText is the text of a play of F over the ideal sealer, with a tape of n bytes.
func playText(n int, acts string) string {
	var b strings.Builder
	b.WriteString("config 2 3 2 100 16 256\nseal ideal\n")
	for piece := range slices.Chunk([]byte(someBytes(n)), 60) {
		b.WriteString("tape " + hex.EncodeToString(piece) + "\n")
	}
	b.WriteString("acts\n" + acts)
	return b.String()
}

// actsOf is the acts of a log, as lines.
func actsOf(log string) string {
	var b strings.Builder
	for line := range strings.Lines(log) {
		if strings.HasPrefix(line, "> ") || strings.HasPrefix(line, ". ") {
			b.WriteString(line[2:])
		}
	}
	return b.String()
}

// wantLog is the log of a text of F, with a tape of n bytes, whose acts are those of the log.
func wantLog(t *testing.T, n int, log string) {
	t.Helper()
	if is := Play(playText(n, actsOf(log))); is != log {
		t.Fatalf("Play:\n%s\nwant:\n%s", is, log)
	}
}

const begun = "> format\ncode 0\n> recover\ncode 0\n"

const example1 = begun + `> batch
. mkdir =/a
. create =/a/f
. end
code 0
result 0 0 0 0 =
result 0 0 0 0 =
> batch
. write =/a/f 1 =hi
. read =/a/f 0 9
. end
code 0
result 0 2 0 0 =
result 0 3 0 0 =%00hi
> batch
. list =/
. stat =/a/f
. end
code 0
result 0 0 0 0 = =a
result 0 0 2 3 =
end 1 0 1168 46 8
`

func TestExample1(t *testing.T) { wantLog(t, 5000, example1) }

func TestExample2(t *testing.T) {
	wantLog(t, 1130, begun+"> batch\n. end\ncode 10\n> batch\n. end\ncode 10\nend 1 0 0 13 8\n")
}

func TestExample3(t *testing.T) {
	wantLog(t, 5000, begun+"> batch\n. stat =/\n. mkdir =/a\n. stat =/a\n. end\ncode 150\n> format\ncode 172\nend 1 0 3880 13 8\n")
}

func TestExample4(t *testing.T) {
	wantLog(t, 5000, begun+`> fuse 8
code 0
> batch
. mkdir =/a
. end
code 100
> batch
. end
code 180
> power
code 0
> recover
code 0
> batch
. list =/
. end
code 0
result 0 0 0 0 = =a
end 1 0 2072 39 8
`)
}

func TestExample5(t *testing.T) {
	wantLog(t, 5000, begun+`> fuse 7
code 0
> batch
. mkdir =/a
. end
code 100
> batch
. end
code 180
> power
code 0
> recover
code 0
> batch
. list =/
. end
code 0
result 0 0 0 0 =
end 1 0 2072 38 8
`)
}

func TestExample6(t *testing.T) {
	wantLog(t, 5000, begun+`> edit 0 1 7 0 = =x
code 0
> recover
code 170
> recover
code 170
> format
code 170
> batch
. end
code 180
end 0 0 3880 14 8
`)
}

func TestExample7(t *testing.T) {
	wantLog(t, 5000, begun+"> edit 0 6 0 0 =more =x\ncode 0\n> recover\ncode 0\nend 1 0 3880 18 8\n")
}

// traceOf is the trace of a machine that did a text.
func traceOf(t *testing.T, text string) []api.Call {
	t.Helper()
	p, err := script.Parse(text)
	if err != nil {
		t.Fatal(err)
	}
	m := mustNew(t, p)
	for _, a := range p.Acts {
		m.Do(a)
	}
	return m.Trace()
}

func TestExample8(t *testing.T) {
	acts := actsOf(example1)
	other := strings.NewReplacer("/a", "/b", "=hi", "=ho").Replace(acts)
	a, b := traceOf(t, playText(5000, acts)), traceOf(t, playText(5000, other))
	if acts == other || len(a) != 46 || !sameCalls(a, b) {
		t.Errorf("a trace of %d calls, and one of %d, want the same of 46", len(a), len(b))
	}
}

func TestExample9(t *testing.T) {
	text := playText(5000, actsOf(example1))
	p, err := script.Parse(text)
	if err != nil {
		t.Fatal(err)
	}
	o, _ := leak.Of(p.Config, p.Acts)
	calls, e := sim.Run(o, six(), someBytes(5000))
	if e != api.OK || len(calls) != 46 || !sameCalls(calls, traceOf(t, text)) {
		t.Errorf("sim.Run: %d, %d calls, want the trace", e, len(calls))
	}
}

func TestExample10(t *testing.T) {
	text := playText(5000, "format\n# nothing\n\nfuse\nrecover\n")
	line := 1 + strings.Count(text[:strings.Index(text, "fuse")], "\n")
	for _, x := range []struct{ text, log string }{
		{"", "refused 0 220\n"},
		{strings.Replace(text, "config 2", "config 0", 1), "refused " + strconv.Itoa(line) + " 223\n"},
		{strings.Replace(playText(5000, ""), "config 2", "config 0", 1), "refused 0 140\n"},
		{text, "refused " + strconv.Itoa(line) + " 223\n"},
	} {
		if is := Play(x.text); is != x.log {
			t.Errorf("Play: %q, want %q", is, x.log)
		}
	}
}

// P23.1

func TestNewIsLoadOfNothing(t *testing.T) {
	bothSealers(t, func(t *testing.T, ideal bool) {
		p := playOf(six(), ideal, longTape)
		a, b := mustNew(t, p), mustLoad(t, p, nil, api.Register{}, nil)
		c := mustLoad(t, p, []api.Blob{}, api.Register{}, []api.Sealed{})
		if v := (api.View{Left: len(longTape)}); a.Look() != v {
			t.Errorf("Look of a new machine: %+v", a.Look())
		}
		for _, x := range working() {
			answer := a.Do(x)
			if !sameAnswer(answer, b.Do(x)) || !sameAnswer(answer, c.Do(x)) {
				t.Fatalf("%+v: %+v, and another answer of Load of nothing", x, answer)
			}
			wantSame(t, "Load of nothing", a, b)
			wantSame(t, "Load of empty lists", a, c)
		}
	})
}

// working is a script in which a bit of everything is done, in F.
func working() []api.Act {
	return []api.Act{
		actOf(api.ActRecover),
		batchOf(),
		actOf(api.ActFormat),
		actOf(api.ActRecover),
		batchOf(mkdir("/a"), create("/a/f")),
		batchOf(write("/a/f", "twenty bytes of text"), read("/a/f", 9)),
		batchOf(mkdir("/a"), stat("/b"), stat("/")),
		fuseOf(9),
		batchOf(create("/g"), rename("/g", "/a/f")),
		batchOf(list("/")),
		actOf(api.ActRecover),
		actOf(api.ActPower),
		actOf(api.ActRecover),
		batchOf(read("/a/f", 99), list("/a")),
		putEdit(api.EditReplay, 7, 7),
		actOf(api.ActFormat),
		batchOf(),
		actOf(api.ActRecover),
		actOf(api.ActFormat),
		batchOf(),
	}
}

func TestThePlaysActsMakeNoDifference(t *testing.T) {
	p := playOf(six(), true, longTape)
	a := mustNew(t, p)
	p.Acts = []api.Act{actOf(api.ActFormat), actOf(99), batchOf(mkdir("/x"))}
	b := mustNew(t, p)
	wantSame(t, "a play with acts", b, a)
	wantCode(t, b, actOf(api.ActRecover), api.ErrBlank)
}

func tooLong() string { return strings.Repeat("t", api.MaxTape+1) }

func TestLoadRefuses(t *testing.T) {
	row := api.Sealed{Kind: 1, Name: "n", Blob: someBytes(42), Text: "ab"}
	change := func(f func(*api.Sealed)) []api.Sealed {
		x := row
		f(&x)
		x2 := api.Sealed{Kind: 2, Name: "m", Blob: someBytes(41), Text: "c"}
		return []api.Sealed{x2, x}
	}
	blob := []api.Blob{{Name: "a", Blob: "x"}}
	tag := someBytes(16)
	for _, x := range []struct {
		what     string
		config   func(*api.Config)
		ideal    bool
		key      string
		table    []api.Sealed
		blobs    []api.Blob
		register api.Register
		want     api.Errno
	}{
		{what: "slots 0", config: func(c *api.Config) { c.Slots = 0 }, ideal: true, want: api.ErrConfig},
		{what: "slots 65", config: func(c *api.Config) { c.Slots = 65 }, ideal: true, want: api.ErrConfig},
		{what: "page 63", config: func(c *api.Config) { c.Page = 63 }, ideal: true, want: api.ErrConfig},
		{what: "page 64", config: func(c *api.Config) { c.Page = 64 }, ideal: true, want: api.OK},
		{what: "a key of 31 bytes", key: master[:31], want: api.ErrKey},
		{what: "a key of 33 bytes", key: master + "k", want: api.ErrKey},
		{what: "no key", want: api.ErrKey},
		{what: "a key", key: master, want: api.OK},
		{what: "a key that nobody asks for", ideal: true, key: "short", want: api.OK},
		{what: "a table that nobody asks for", key: master, table: []api.Sealed{row, row}, want: api.OK},
		{what: "a table", ideal: true, table: change(func(*api.Sealed) {}), want: api.OK},
		{what: "a row of no kind", ideal: true, table: change(func(s *api.Sealed) { s.Kind = 4 }), want: api.ErrKind},
		{what: "a row of too long a name", ideal: true, table: change(func(s *api.Sealed) { s.Name = strings.Repeat("n", 65) }), want: api.ErrArg},
		{what: "a row of too long a text", ideal: true, table: change(func(s *api.Sealed) { s.Text = strings.Repeat("n", api.MaxPlain+1) }), want: api.ErrBig},
		{what: "a row of too short a blob", ideal: true, table: change(func(s *api.Sealed) { s.Blob = s.Blob[1:] }), want: api.ErrCoins},
		{what: "a row twice", ideal: true, table: []api.Sealed{row, row}, want: api.ErrStale},
		{what: "objects", ideal: true, blobs: []api.Blob{{Name: "b"}, {Name: "a"}}, want: api.OK},
		{what: "an object twice", ideal: true, blobs: slices.Concat(blob, blob), want: api.ErrArg},
		{what: "an object without a name", key: master, blobs: []api.Blob{{Blob: "x"}}, want: api.ErrArg},
		{what: "too long an object", key: master, blobs: []api.Blob{{Name: "a", Blob: strings.Repeat("x", api.MaxBlob+1)}}, want: api.ErrBig},
		{what: "a register", ideal: true, register: api.Register{Current: tag, Pending: tag, Stopped: true}, want: api.OK},
		{what: "a current tag that is none", ideal: true, register: api.Register{Current: tag[1:]}, want: api.ErrArg},
		{what: "a pending tag that is none", key: master, register: api.Register{Pending: tag + "x"}, want: api.ErrArg},
	} {
		p := api.Play{Config: six(), Ideal: x.ideal, Master: x.key, Tape: "tape"}
		if x.config != nil {
			x.config(&p.Config)
		}
		m, e := Load(p, x.blobs, x.register, x.table)
		if e != x.want || (m != nil) != (x.want == api.OK) {
			t.Errorf("%s: Load: %v, %d, want %d", x.what, m, e, x.want)
		}
		if x.blobs == nil && x.register == (api.Register{}) && x.table == nil {
			if m, e := New(p); e != x.want || (m != nil) != (x.want == api.OK) {
				t.Errorf("%s: New: %v, %d, want %d", x.what, m, e, x.want)
			}
		}
	}
}

// TestOrderOfErrors mends one fault behind the other.
func TestOrderOfErrors(t *testing.T) {
	wrong := []api.Sealed{{Kind: 9}}
	for _, ideal := range []bool{true, false} {
		p := api.Play{Config: api.Config{}, Ideal: ideal, Tape: tooLong()}
		blobs, table := []api.Blob{{}}, wrong
		steps := []struct {
			want api.Errno
			mend func()
		}{
			{api.ErrConfig, func() { p.Config = six() }},
			{api.ErrBig, func() { p.Tape = p.Tape[1:] }},
			{map[bool]api.Errno{true: api.ErrKind, false: api.ErrKey}[ideal], func() { table, p.Master = nil, master }},
			{api.ErrArg, func() { blobs = nil }},
			{api.OK, func() {}},
		}
		for _, s := range steps {
			m, e := Load(p, blobs, api.Register{}, table)
			if e != s.want || (m != nil) != (e == api.OK) {
				t.Errorf("ideal %v: Load: %v, %d, want %d", ideal, m, e, s.want)
			}
			s.mend()
		}
	}
}

func TestMachinesThatNoCallMade(t *testing.T) {
	for _, m := range []*Machine{nil, {}, new(Machine)} {
		for kind := -1; kind <= 8; kind++ {
			if x := m.Do(api.Act{Kind: kind, Ops: []api.Op{mkdir("/a")}, I: 1}); !sameAnswer(x, api.Answer{Code: api.ErrNil}) {
				t.Errorf("Do of the kind %d: %+v, want ErrNil", kind, x)
			}
		}
		a, e := m.Audit()
		if e != api.ErrNil || !sameAudit(a, api.Audit{}) {
			t.Errorf("Audit: %+v, %d, want ErrNil", a, e)
		}
		if m.Look() != (api.View{}) || len(m.Trace()) > 0 || len(m.Store()) > 0 || m.Register() != (api.Register{}) || len(m.Table()) > 0 {
			t.Error("a machine that is not there says something")
		}
	}
}

func TestACopyIsTheSameMachine(t *testing.T) {
	m := made(t, true)
	twin := *m
	wantCode(t, &twin, batchOf(mkdir("/a")), api.OK)
	wantSame(t, "a copy", m, &twin)
	if x := m.Do(batchOf(list("/"))); !slices.Equal(x.Results[0].Names, []string{"a"}) {
		t.Errorf("List: %+v, want a", x)
	}
}

// P23.2

func TestKindsThatAreNone(t *testing.T) {
	m := made(t, true)
	for _, kind := range []int{math.MinInt, -1, 0, 7, 8, 100, math.MaxInt} {
		wantNoCall(t, m, api.Act{Kind: kind, Ops: []api.Op{mkdir("/a")}, I: 0, Edit: api.Edit{Kind: api.EditAdd, Name: "n"}}, api.ErrStep)
		if v := m.Look(); !v.Alive || v.Down {
			t.Errorf("behind the act %d: %+v", kind, v)
		}
	}
}

// TestFieldsThatAreNotNamed does each act with other fields beside its own.
func TestFieldsThatAreNotNamed(t *testing.T) {
	junk := api.Act{Ops: []api.Op{mkdir("/junk"), create("/junk/f")}, I: 1, Edit: api.Edit{Kind: api.EditDrop, Put: 7}}
	bothSealers(t, func(t *testing.T, ideal bool) {
		p := playOf(six(), ideal, longTape)
		a, b := mustNew(t, p), mustNew(t, p)
		for _, x := range working() {
			y := junk
			y.Kind = x.Kind
			switch x.Kind {
			case api.ActBatch:
				y.Ops = x.Ops
			case api.ActFuse:
				y.I = x.I
			case api.ActEdit:
				y.Edit = x.Edit
			}
			if want, is := a.Do(x), b.Do(y); !sameAnswer(is, want) {
				t.Fatalf("Do(%+v): %+v, want %+v", y, is, want)
			}
			wantSame(t, "fields that are not named", b, a)
		}
	})
}

func TestWithoutAVault(t *testing.T) {
	bothSealers(t, func(t *testing.T, ideal bool) {
		m := mustNew(t, playOf(six(), ideal, longTape))
		wantNoCall(t, m, batchOf(), api.ErrDead)
		wantNoCall(t, m, batchOf(stat("/"), stat("/"), stat("/")), api.ErrDead)
		wantNoCall(t, m, actOf(api.ActRecover), api.ErrBlank)
		wantCode(t, m, actOf(api.ActFormat), api.OK)
		wantNoCall(t, m, batchOf(), api.ErrDead) // it was made, and not taken up
		if m.Look().Alive {
			t.Error("a vault that was not taken up is alive")
		}
		wantNoCall(t, m, actOf(api.ActFormat), api.ErrVault)
		wantCode(t, m, actOf(api.ActRecover), api.OK)
		if !m.Look().Alive {
			t.Error("a vault that was taken up is not alive")
		}
		wantCode(t, m, batchOf(), api.OK)
	})
}

func TestFormatLeavesTheVault(t *testing.T) {
	m := made(t, true)
	wantCode(t, m, batchOf(mkdir("/a")), api.OK)
	wantNoCall(t, m, actOf(api.ActFormat), api.ErrVault)
	if x := m.Do(batchOf(list("/"))); x.Code != api.OK || !slices.Equal(x.Results[0].Names, []string{"a"}) {
		t.Errorf("a batch behind Format: %+v", x)
	}
	wantCode(t, m, fuseOf(0), api.OK)
	wantNoCall(t, m, actOf(api.ActFormat), api.ErrDown)
	if v := m.Look(); !v.Alive || !v.Down {
		t.Errorf("behind a Format that the power failed: %+v", v)
	}
}

func TestARecoverThatFailsTakesTheVault(t *testing.T) {
	m := made(t, true)
	wantCode(t, m, fuseOf(2), api.OK)
	wantCode(t, m, actOf(api.ActRecover), api.ErrDown)
	if m.Look().Alive {
		t.Error("a vault is alive behind a Recover that was refused")
	}
	wantNoCall(t, m, batchOf(), api.ErrDead)
	wantNoCall(t, m, fuseOf(3), api.ErrDown)
	wantNoCall(t, m, actOf(api.ActPower), api.OK)
	wantNoCall(t, m, batchOf(), api.ErrDead)
	wantCode(t, m, actOf(api.ActRecover), api.OK)
	wantCode(t, m, batchOf(), api.OK)
}

func TestRecoverTakesTheVaultAnew(t *testing.T) {
	m := made(t, true)
	wantCode(t, m, batchOf(mkdir("/a")), api.OK)
	calls := m.Look().Calls
	wantCode(t, m, actOf(api.ActRecover), api.OK)
	if is := letters(m.Trace()[calls:]); is != "G*GGL" {
		t.Errorf("Recover: the calls %s", is)
	}
	if x := m.Do(batchOf(stat("/a"))); x.Code != api.OK || x.Results[0].Kind != api.IsDir {
		t.Errorf("a batch behind Recover: %+v", x)
	}
}

func TestPowerTakesTheVault(t *testing.T) {
	m := made(t, false)
	wantNoCall(t, m, actOf(api.ActPower), api.OK) // it was on
	if m.Look().Alive {
		t.Error("a vault is alive behind ActPower")
	}
	wantNoCall(t, m, batchOf(), api.ErrDead)
	wantCode(t, m, actOf(api.ActRecover), api.OK)
}

func TestFuses(t *testing.T) {
	m := made(t, true)
	wantNoCall(t, m, fuseOf(3), api.OK)
	wantNoCall(t, m, fuseOf(-1), api.OK)
	wantCode(t, m, batchOf(), api.OK)
	wantNoCall(t, m, fuseOf(1), api.OK)
	wantNoCall(t, m, fuseOf(13), api.OK) // a batch makes eleven store calls and two register calls
	wantCode(t, m, batchOf(), api.OK)
	if v := m.Look(); !v.Down || !v.Alive {
		t.Errorf("behind a batch of as many calls as the fuse lets: %+v", v)
	}
	for _, i := range []int{-1, 0, 5, math.MaxInt, math.MinInt} {
		wantNoCall(t, m, fuseOf(i), api.ErrDown)
	}
	wantNoCall(t, m, actOf(api.ActPower), api.OK)
	for _, i := range []int{math.MaxInt, math.MinInt, 0} {
		wantNoCall(t, m, fuseOf(i), api.OK)
	}
	if !m.Look().Down {
		t.Error("the power is on behind a fuse of 0")
	}
	wantNoCall(t, m, actOf(api.ActRecover), api.ErrDown)
	wantNoCall(t, m, actOf(api.ActFormat), api.ErrDown)
	wantNoCall(t, m, batchOf(), api.ErrDead)
}

func TestVaultsThatAreDead(t *testing.T) {
	m := made(t, true)
	wantCode(t, m, fuseOf(1), api.OK)
	wantCode(t, m, batchOf(), api.ErrDown)
	if m.Look().Alive {
		t.Error("a vault is alive behind its ErrDown")
	}
	for range 2 {
		wantNoCall(t, m, batchOf(stat("/")), api.ErrDead)
		wantNoCall(t, m, actOf(api.ActFormat), api.ErrDown)
	}
	m.Do(actOf(api.ActPower))
	wantNoCall(t, m, batchOf(stat("/")), api.ErrDead)
	wantCode(t, m, actOf(api.ActRecover), api.OK)
	if x := m.Do(batchOf(stat("/"))); x.Code != api.OK || x.Results[0].Kind != api.IsDir {
		t.Errorf("Stat: %+v", x)
	}
}

// A vault that found the store tampered with stays in memory, and says so, till an ActRecover or an ActPower.
func TestVaultsThatWereTampered(t *testing.T) {
	for _, last := range []int{api.ActRecover, api.ActPower} {
		m := made(t, true)
		wantNoCall(t, m, editOf(api.Edit{Kind: api.EditDrop}), api.OK)
		wantCode(t, m, batchOf(), api.ErrTampered)
		if is := letters(m.Trace()[13:]); is != "G" || m.Look().Alive || !m.Register().Stopped {
			t.Errorf("behind ErrTampered: the calls %s, %+v, %+v", is, m.Look(), m.Register())
		}
		for range 2 {
			wantNoCall(t, m, batchOf(stat("/"), stat("/"), stat("/")), api.ErrTampered)
			wantNoCall(t, m, actOf(api.ActFormat), api.ErrTampered)
		}
		wantNoCall(t, m, fuseOf(0), api.OK)
		wantNoCall(t, m, batchOf(), api.ErrTampered)
		wantNoCall(t, m, actOf(api.ActFormat), api.ErrDown)
		wantNoCall(t, m, actOf(last), map[int]api.Errno{api.ActRecover: api.ErrDown, api.ActPower: api.OK}[last])
		wantNoCall(t, m, batchOf(), api.ErrDead)
		m.Do(actOf(api.ActPower))
		wantNoCall(t, m, actOf(api.ActRecover), api.ErrTampered)
		wantNoCall(t, m, batchOf(), api.ErrDead)
	}
}

func TestEditsAreCountedFromNowOn(t *testing.T) {
	for before := range 9 {
		m := made(t, true)
		wantCode(t, m, batchOf(), api.OK) // so that neither calls nor puts begin at 0
		from := m.Look().Calls
		wantNoCall(t, m, editOf(api.Edit{Before: before, Kind: api.EditAdd, Name: "more", Blob: "x"}), api.OK)
		for range 2 {
			wantCode(t, m, actOf(api.ActRecover), api.OK)
		}
		trace := m.Trace()[from:]
		i := slices.IndexFunc(trace, func(c api.Call) bool { return slices.Contains(c.Names, "more") })
		want := map[bool]int{true: 3, false: -1}[before <= 3] // a Recover's List is its fourth call
		if before >= 4 && before <= 7 {
			want = 7
		}
		if i != want {
			t.Errorf("an edit ahead of the call %d from now on is seen at %d, want %d", before, i, want)
		}
	}
}

func TestEditsAreRefused(t *testing.T) {
	m := made(t, true)
	good := api.Edit{Kind: api.EditAdd, Name: "n"}
	with := func(f func(*api.Edit)) api.Edit {
		e := good
		f(&e)
		return e
	}
	for _, x := range []struct {
		edit api.Edit
		want api.Errno
	}{
		{with(func(e *api.Edit) { e.Before = -1 }), api.ErrEdit},
		{with(func(e *api.Edit) { e.Before = math.MinInt }), api.ErrEdit},
		{with(func(e *api.Edit) { e.Before = 1<<40 + 1 }), api.ErrEdit},
		{with(func(e *api.Edit) { e.Before = math.MaxInt }), api.ErrEdit},
		{with(func(e *api.Edit) { e.Before = math.MaxInt - 12 }), api.ErrEdit}, // with the calls added more than an int holds
		{with(func(e *api.Edit) { e.Before = 1 << 40 }), api.OK},
		{with(func(e *api.Edit) { e.Kind = 0 }), api.ErrEdit},
		{with(func(e *api.Edit) { e.Kind = 7 }), api.ErrEdit},
		{with(func(e *api.Edit) { e.Name = "" }), api.ErrEdit},
		{api.Edit{Kind: api.EditDrop, Put: -1}, api.ErrEdit},
		{api.Edit{Kind: api.EditSwap, From: -1}, api.ErrEdit},
		{api.Edit{Kind: api.EditDrop, Put: 1000, From: -1}, api.OK}, // a put that was not done: no effect
	} {
		wantNoCall(t, m, editOf(x.edit), x.want)
	}
	wantCode(t, m, fuseOf(0), api.OK)
	wantNoCall(t, m, editOf(good), api.OK)
	wantNoCall(t, m, editOf(api.Edit{Before: -1, Kind: api.EditDrop}), api.ErrEdit)
}

func TestEditsAtTheLimit(t *testing.T) {
	m := made(t, true)
	e := api.Edit{Before: 1 << 40, Kind: api.EditAdd, Name: "n"}
	for range api.MaxEdits {
		wantCode(t, m, editOf(e), api.OK)
	}
	wantNoCall(t, m, editOf(e), api.ErrBig)
	e.Before++
	wantNoCall(t, m, editOf(e), api.ErrEdit)
	wantCode(t, m, batchOf(), api.OK)
}

func TestErrBatchAndErrEntropyLeaveTheVault(t *testing.T) {
	bothSealers(t, func(t *testing.T, ideal bool) {
		m := made(t, ideal)
		wantNoCall(t, m, batchOf(mkdir("/a"), mkdir("/b"), stat("/a")), api.ErrBatch)
		if x := m.Do(batchOf(list("/"))); x.Code != api.OK || len(x.Results) != 1 || len(x.Results[0].Names) > 0 {
			t.Errorf("List behind ErrBatch: %+v", x)
		}
	})
	m := mustNew(t, playOf(six(), true, someBytes(formatBytes+batchBytes-1)))
	m.Do(actOf(api.ActFormat))
	m.Do(actOf(api.ActRecover))
	calls := m.Look().Calls
	for range 2 {
		wantCode(t, m, batchOf(mkdir("/a")), api.ErrEntropy)
		if v := m.Look(); v != (api.View{Alive: true, Calls: calls, Stored: objects}) {
			t.Errorf("behind ErrEntropy: %+v", v)
		}
	}
	wantNoCall(t, m, batchOf(mkdir("/a"), mkdir("/b"), stat("/a")), api.ErrBatch)
	wantCode(t, m, actOf(api.ActRecover), api.OK)
}

// P23.3

func TestLook(t *testing.T) {
	bothSealers(t, func(t *testing.T, ideal bool) {
		m := mustNew(t, playOf(six(), ideal, longTape))
		format, batch := formatBytes, batchBytes
		if !ideal {
			format, batch = 7*16+8*24, 4*16+5*24
		}
		left := len(longTape)
		want := func(what string, v api.View) {
			t.Helper()
			v.Left = left
			if is := m.Look(); is != v {
				t.Fatalf("%s: Look %+v, want %+v", what, is, v)
			}
		}
		want("new", api.View{})
		m.Do(actOf(api.ActFormat))
		left -= format
		want("format", api.View{Calls: 9, Stored: 8})
		m.Do(actOf(api.ActRecover))
		want("recover", api.View{Alive: true, Calls: 13, Stored: 8})
		m.Do(batchOf())
		left -= batch
		want("batch", api.View{Alive: true, Calls: 24, Stored: 8})
		m.Do(fuseOf(5))
		want("fuse", api.View{Alive: true, Calls: 24, Stored: 8})
		m.Do(batchOf())
		left -= batch
		want("a batch that was cut off", api.View{Down: true, Calls: 29, Stored: 11})
		m.Do(actOf(api.ActPower))
		want("power", api.View{Calls: 29, Stored: 11})
		m.Do(actOf(api.ActRecover))
		want("recover again", api.View{Alive: true, Calls: 36, Stored: 8})
		m.Do(fuseOf(0))
		want("a fuse of 0", api.View{Alive: true, Down: true, Calls: 36, Stored: 8})
	})
}

// lookAt asks for all that is seen.
func lookAt(m *Machine) {
	m.Look()
	m.Trace()
	m.Store()
	m.Register()
	m.Table()
	m.Audit()
}

// TestLookingChangesNothing sets a fuse, which a call would use up, and an edit ahead of the next call.
func TestLookingChangesNothing(t *testing.T) {
	bothSealers(t, func(t *testing.T, ideal bool) {
		p := playOf(six(), ideal, longTape)
		a, b := mustNew(t, p), mustNew(t, p)
		for _, x := range working() {
			lookAt(a)
			if is, want := a.Do(x), b.Do(x); !sameAnswer(is, want) {
				t.Fatalf("Do(%+v) behind looking: %+v, want %+v", x, is, want)
			}
			lookAt(a)
			wantSame(t, "looking", a, b)
		}
	})
	m := made(t, true)
	wantCode(t, m, fuseOf(1), api.OK)
	wantCode(t, m, editOf(api.Edit{Kind: api.EditAdd, Name: "more"}), api.OK)
	store, calls := m.Store(), m.Look().Calls
	lookAt(m)
	lookAt(m)
	if v := m.Look(); v.Down || v.Calls != calls || !slices.Equal(m.Store(), store) {
		t.Errorf("looking is a call: %+v", v)
	}
	m.Do(fuseOf(0))
	lookAt(m)
	if len(m.Store()) != objects || len(m.Trace()) != calls {
		t.Error("with the power off less is seen")
	}
}

func TestStoreIsTheTracesDoing(t *testing.T) {
	bothSealers(t, func(t *testing.T, ideal bool) {
		m := made(t, ideal)
		m.Do(batchOf(create("/f"), write("/f", "bytes")))
		w := world.New()
		for _, c := range m.Trace() {
			switch c.Kind {
			case api.CallPut:
				w.Put(c.Name, c.Blob)
			case api.CallDelete:
				w.Delete(c.Name)
			}
		}
		if !slices.Equal(w.Dump(), m.Store()) || len(m.Store()) != objects {
			t.Error("the store is not what the trace says")
		}
		root := m.Store()[slices.IndexFunc(m.Store(), func(b api.Blob) bool { return b.Name == api.RootName })]
		if r := m.Register(); r != (api.Register{Current: seal.Tag(root.Blob)}) {
			t.Errorf("the register: %+v", r)
		}
	})
}

func TestTable(t *testing.T) {
	m := made(t, true)
	m.Do(batchOf())
	var puts []api.Call
	for _, c := range m.Trace() {
		if c.Kind == api.CallPut {
			puts = append(puts, c)
		}
	}
	table := m.Table()
	if len(table) != len(puts) || len(table) != 8+5 {
		t.Fatalf("the table has %d rows, want one of each of %d puts", len(table), len(puts))
	}
	for i, row := range table {
		if row.Name != puts[i].Name || row.Blob != puts[i].Blob || len(row.Text) != len(row.Blob)-seal.Overhead {
			t.Errorf("the row %d is not the put's", i)
		}
	}
	if real := made(t, false); len(real.Table()) > 0 {
		t.Error("a real sealer has a table")
	}
	rows := []api.Sealed{{Kind: 3, Name: "n", Blob: someBytes(41), Text: "a"}}
	p := playOf(six(), true, longTape)
	if x := mustLoad(t, p, nil, api.Register{}, rows).Table(); !slices.Equal(x, rows) {
		t.Errorf("the table of Load: %+v", x)
	}
}

func TestAudit(t *testing.T) {
	bothSealers(t, func(t *testing.T, ideal bool) {
		m := mustNew(t, playOf(six(), ideal, longTape))
		for _, x := range working() {
			m.Do(x)
			var s seal.Sealer
			if ideal {
				s, _ = seal.NewIdeal(m.Table())
			} else {
				s, _ = seal.NewReal(master)
			}
			want, e := audit.Check(m.Store(), m.Register(), s, six())
			if is, f := m.Audit(); f != e || !sameAudit(is, want) {
				t.Errorf("behind %+v: Audit %+v, %d, want %+v, %d", x, is, f, want, e)
			}
		}
	})
	m := mustNew(t, playOf(six(), true, longTape))
	if _, e := m.Audit(); e != api.ErrBlank {
		t.Errorf("Audit of a new machine: %d", e)
	}
	m = made(t, true)
	m.Do(batchOf(create("/f"), write("/f", "twenty bytes of text")))
	want := api.Audit{Objects: 5, Pages: 2, Files: 1, Bytes: 20, Buckets: []int{16, 16, 16, 16, 26}}
	if a, e := m.Audit(); e != api.OK || !sameAudit(a, want) {
		t.Errorf("Audit: %+v, %d", a, e)
	}
	m.Do(editOf(api.Edit{Before: 3, Kind: api.EditAdd, Name: "more"})) // as the Recover lists
	m.Do(fuseOf(5))                                                    // and the power is off ahead of its Delete
	wantCode(t, m, actOf(api.ActRecover), api.ErrDown)
	want.Foreign = 1
	if a, e := m.Audit(); e != api.OK || !sameAudit(a, want) || !m.Look().Down {
		t.Errorf("Audit with an object more: %+v, %d", a, e)
	}
}

// scribble writes into a list, and into what lies behind its end.
func scribble[T any](l []T) {
	var zero T
	for i := range l[:cap(l)] {
		l[:cap(l)][i] = zero
	}
}

func TestListsAreNewMemory(t *testing.T) {
	for _, ideal := range []bool{true, false} {
		p := playOf(six(), ideal, longTape)
		a, b := mustNew(t, p), mustNew(t, p)
		for _, x := range working() {
			answer := a.Do(x)
			for i := range answer.Results {
				scribble(answer.Results[i].Names)
			}
			scribble(answer.Results)
			b.Do(x)
			trace := a.Trace()
			for i := range trace {
				scribble(trace[i].Names)
			}
			scribble(trace)
			scribble(a.Store())
			scribble(a.Table())
			found, _ := a.Audit()
			scribble(found.Buckets)
			wantSame(t, "answers that were written into", a, b)
		}
	}
}

// P23.4

// headText is the lines of a play up to the acts.
func headText(lines string) string { return "config 2 3 2 100 16 256\n" + lines + "acts\n" }

func TestRefusedTexts(t *testing.T) {
	long := "tape " + strings.Repeat("00", 131072) + "\n"
	for text, want := range map[string]string{
		"\n\n# nothing\n": "refused 0 220\n",
		"acts\n":          "refused 1 220\n",
		"config 2 3 2 100 16\nseal ideal\nacts\n":                   "refused 1 223\n",
		"config 2 3 2 100 16 x\nseal ideal\nacts":                   "refused 1 224\n",
		"config 2 3 2 100 16 256\nseal best\nacts":                  "refused 2 224\n",
		"config 2 3 2 100 16 256\nseal ideal":                       "refused 0 220\n",
		headText("seal ideal\n" + long):                             "refused 3 221\n",
		headText("seal ideal\n") + "batch\n":                        "refused 0 220\n",
		headText("seal ideal\n") + "stat =/\n":                      "refused 4 222\n",
		headText("seal ideal\n") + "\nfuse x\n":                     "refused 5 224\n",
		headText("seal ideal\n") + strings.Repeat("power\n", 19998): "refused 20001 226\n",
		// What a machine refuses has the line 0.
		"config 2 3 2 100 16 63\nseal real 00\ntape 00\nacts\nformat":      "refused 0 140\n",
		headText("seal real 00\n"):                                         "refused 0 40\n",
		headText("seal real \n"):                                           "refused 0 40\n",
		headText("seal real " + hex.EncodeToString([]byte(master)) + "\n"): "end 0 0 0 0 0\n",
		headText("seal ideal\n"):                                           "end 0 0 0 0 0\n",
		headText("seal ideal\ntape 0001\n"):                                "end 0 0 2 0 0\n",
		headText("seal ideal\n") + "fuse 0":                                "> fuse 0\ncode 0\nend 0 1 0 0 0\n",
	} {
		if is := Play(text); is != want {
			t.Errorf("Play(%.60q ..): %.200q, want %q", text, is, want)
		}
	}
}

// TestALog has a line of each sort of act, bytes that are written as digits, and the machine's end with the power off.
func TestALog(t *testing.T) {
	wantLog(t, 8000, `> recover
code 171
> batch
. end
code 180
> format
code 0
> recover
code 0
> batch
. create =/a%25
. write =/a%25 0 =%0a%00.%3d
. end
code 0
result 0 0 0 0 =
result 0 4 0 0 =
> batch
. read =/a%25 0 9
. list =/
. end
code 0
result 0 4 0 0 =%0a%00.%3d
result 0 0 0 0 = =a%25
> batch
. rename =/a%25 =/b
. stat =a%20
. end
code 0
result 0 0 0 0 =
result 110 0 0 0 =
> edit 0 7 0 0 = =
code 102
> edit -1 2 0 0 = =
code 102
> edit 0 5 0 9 = =
code 0
> fuse -3
code 0
> fuse 3
code 0
> batch
. cut =/b 2
. rmdir =/b
. end
code 170
> recover
code 170
> batch
. end
code 180
end 0 1 3264 47 8
`)
}

// plainLog is the log of a play by what P23.4 says.
func plainLog(t *testing.T, p api.Play) string {
	t.Helper()
	m, e := New(p)
	if e != api.OK {
		return "refused 0 " + strconv.Itoa(int(e)) + "\n"
	}
	var lines []string
	for _, a := range p.Acts {
		text, e := script.PrintAct(a)
		if e != api.OK {
			t.Fatalf("PrintAct: %d", e)
		}
		for i, l := range strings.Split(text, "\n") {
			lines = append(lines, map[bool]string{true: "> ", false: ". "}[i == 0]+l)
		}
		lines = append(lines, strings.TrimSuffix(script.Tell(m.Do(a)), "\n"))
	}
	v, number := m.Look(), map[bool]string{true: "1", false: "0"}
	lines = append(lines, strings.Join([]string{"end", number[v.Alive], number[v.Down], strconv.Itoa(v.Left), strconv.Itoa(v.Calls), strconv.Itoa(v.Stored)}, " "))
	return strings.Join(lines, "\n") + "\n"
}

func TestLogsAtRandom(t *testing.T) {
	for seed := range int64(60) {
		r := rand.New(rand.NewSource(seed))
		c := someConfig(r)
		p := playOf(c, r.Intn(2) == 0, someBytes(r.Intn(20000)))
		p.Acts = someScript(r, c, 5+r.Intn(30), r.Intn(2) == 0)
		p.Acts = slices.DeleteFunc(p.Acts, func(a api.Act) bool {
			_, e := script.PrintAct(a)
			return e != api.OK
		})
		text, e := script.Print(p)
		if e != api.OK {
			t.Fatalf("Print: %d", e)
		}
		if is, want := Play(text), plainLog(t, p); is != want {
			t.Fatalf("seed %d: Play:\n%s\nwant:\n%s", seed, is, want)
		}
	}
}

// P23.5

func TestWhatIsHandedInStaysAndIsNotKept(t *testing.T) {
	for _, ideal := range []bool{true, false} {
		old := made(t, ideal)
		old.Do(batchOf(create("/f"), write("/f", "hello")))
		roomy := func() ([]api.Blob, []api.Sealed) {
			return append(old.Store(), api.Blob{Name: "behind"}), append(old.Table(), api.Sealed{Name: "behind"})
		}
		blobs, table := roomy()
		p := playOf(six(), ideal, longTape)
		p.Acts = []api.Act{actOf(api.ActPower)}
		m := mustLoad(t, p, blobs[:len(blobs)-1], old.Register(), table[:len(table)-1])
		wasBlobs, wasTable := roomy()
		ops := append(make([]api.Op, 0, 9), read("/f", 9), stat("/f"), mkdir("/behind"))
		was := slices.Clone(ops)
		wantCode(t, m, actOf(api.ActRecover), api.OK)
		x := m.Do(batchOf(ops[:2]...))
		if !slices.Equal(blobs, wasBlobs) || !slices.Equal(table, wasTable) || !slices.Equal(ops, was) || len(p.Acts) != 1 || p.Acts[0].Kind != api.ActPower {
			t.Fatal("what was handed in is another one")
		}
		scribble(blobs)
		scribble(table)
		scribble(ops)
		scribble(p.Acts)
		y := m.Do(batchOf(read("/f", 9), stat("/f")))
		if !sameAnswer(x, y) || x.Code != api.OK || x.Results[0].Data != "hello" {
			t.Errorf("a batch behind writing into what was handed in: %+v, want %+v", y, x)
		}
		wantCode(t, m, actOf(api.ActRecover), api.OK)
	}
}

func TestTheSameTwice(t *testing.T) {
	for seed := range int64(20) {
		r := rand.New(rand.NewSource(seed))
		c := someConfig(r)
		p := playOf(c, seed%2 == 0, someBytes(20000))
		acts := someScript(r, c, 40, false)
		a, b := mustNew(t, p), mustNew(t, p)
		other := mustNew(t, playOf(c, seed%2 == 0, someBytes(30000)))
		for _, x := range acts {
			want := a.Do(x)
			other.Do(someAct(r, c, false))
			if is := b.Do(x); !sameAnswer(is, want) {
				t.Fatalf("seed %d: Do(%+v): %+v, and %+v", seed, x, is, want)
			}
		}
		wantSame(t, "the same twice", a, b)
	}
}

func TestManyAtOnce(t *testing.T) {
	want := Play(playText(5000, actsOf(example1)))
	logs := make([]string, 8)
	var all sync.WaitGroup
	for i := range logs {
		all.Go(func() { logs[i] = Play(playText(5000, actsOf(example1))) })
	}
	all.Wait()
	for _, log := range logs {
		if log != want {
			t.Error("another log")
		}
	}
}

// TestNothingPanics hands in whatever there is.
func TestNothingPanics(t *testing.T) {
	numbers := []int{math.MinInt, -1, 0, 1, 2, 7, 65537, 1 << 40, math.MaxInt}
	texts := []string{"", "/", "/a", "a", "\x00\xff", strings.Repeat("/a", 600), someBytes(2000)}
	r := rand.New(rand.NewSource(1))
	number := func() int { return numbers[r.Intn(len(numbers))] }
	text := func() string { return texts[r.Intn(len(texts))] }
	for range 300 {
		m := made(t, r.Intn(2) == 0)
		for range 12 {
			a := api.Act{Kind: r.Intn(9) - 1, I: number()}
			a.Edit = api.Edit{Before: number(), Kind: r.Intn(8), Put: number(), From: number(), Name: text(), Blob: text()}
			for range r.Intn(3) {
				a.Ops = append(a.Ops, api.Op{Kind: r.Intn(12), Path: text(), To: text(), At: number(), N: number(), Data: text()})
			}
			m.Do(a)
			lookAt(m)
		}
		c := api.Config{Slots: number(), Files: number(), Dirs: number(), MaxFile: number(), Least: number(), Page: number()}
		if x, e := Load(api.Play{Config: c, Ideal: r.Intn(2) == 0, Master: text(), Tape: text()}, m.Store(), m.Register(), m.Table()); (x == nil) != (e != api.OK) {
			t.Fatalf("Load: %v, %d", x, e)
		}
		Play(text())
	}
}
