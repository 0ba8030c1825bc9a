package vault

import (
	"fmt"
	"math"
	"math/rand"
	"reflect"
	"slices"
	"strings"
	"sync"
	"testing"

	"casket/api"
	"casket/commit"
	"casket/frame"
	"casket/index"
	"casket/seal"
	"casket/tape"
	"casket/world"
)

// six is the configuration F of the chapter's examples: 2 slots, 5 rows, 2 pages.
func six() api.Config {
	return api.Config{Slots: 2, Files: 3, Dirs: 2, MaxFile: 100, Least: 16, Page: 256}
}

// someBytes is a text of that many bytes in which no sixteen come twice.
func someBytes(n int) string {
	r, b := rand.New(rand.NewSource(int64(n))), make([]byte, n)
	r.Read(b)
	return string(b)
}

var longTape = someBytes(100000)

var master = strings.Repeat("k", 32)

// rig is a vault and all that it hangs on.
type rig struct {
	c     api.Config
	w     *world.World
	bytes string // of the tape
	t     *tape.Tape
	s     seal.Sealer
	v     *Vault
}

func mustTape(t *testing.T, bytes string) *tape.Tape {
	t.Helper()
	x, e := tape.New(bytes)
	if e != api.OK {
		t.Fatalf("tape.New: %d", e)
	}
	return x
}

func mustIdeal(t *testing.T, rows []api.Sealed) *seal.Ideal {
	t.Helper()
	s, e := seal.NewIdeal(rows)
	if e != api.OK {
		t.Fatalf("seal.NewIdeal: %d", e)
	}
	return s
}

func mustReal(t *testing.T) *seal.Real {
	t.Helper()
	s, e := seal.NewReal(master)
	if e != api.OK {
		t.Fatalf("seal.NewReal: %d", e)
	}
	return s
}

func mustAdopt(t *testing.T, blobs []api.Blob, r api.Register) *world.World {
	t.Helper()
	w, e := world.Adopt(blobs, r)
	if e != api.OK {
		t.Fatalf("world.Adopt: %d", e)
	}
	return w
}

// blank is a rig on which nothing was done yet.
func blank(t *testing.T, c api.Config, bytes string, real bool) *rig {
	t.Helper()
	r := &rig{c: c, w: world.New(), bytes: bytes, t: mustTape(t, bytes), s: mustIdeal(t, nil)}
	if real {
		r.s = mustReal(t)
	}
	return r
}

// made is a rig with a vault that was formatted and recovered.
func made(t *testing.T, c api.Config, real bool) *rig {
	t.Helper()
	r := blank(t, c, longTape, real)
	r.format(t, api.OK)
	r.takeUp(t, api.OK)
	return r
}

// bothSorts is a test over each sort of sealer.
func bothSorts(t *testing.T, test func(t *testing.T, real bool)) {
	t.Helper()
	t.Run("ideal", func(t *testing.T) { test(t, false) })
	t.Run("real", func(t *testing.T) { test(t, true) })
}

func (r *rig) format(t *testing.T, want api.Errno) {
	t.Helper()
	if e := Format(r.w, r.t, r.s, r.c); e != want {
		t.Fatalf("Format: %d, want %d", e, want)
	}
}

// takeUp recovers; the rig's vault is the one that is answered, or none.
func (r *rig) takeUp(t *testing.T, want api.Errno) {
	t.Helper()
	left, drawn := r.t.Left(), r.t.Drawn()
	v, e := Recover(r.w, r.t, r.s, r.c)
	if e != want || (v == nil) != (e != api.OK) {
		t.Fatalf("Recover: %v, %d, want %d", v, e, want)
	}
	if r.t.Left() != left || r.t.Drawn() != drawn {
		t.Fatalf("Recover has drawn %d bytes", left-r.t.Left())
	}
	if e == api.OK && v.Code() != api.OK {
		t.Fatalf("a new vault's code is %d", v.Code())
	}
	r.v = v
}

func (r *rig) batch(t *testing.T, want api.Errno, ops ...api.Op) []api.Result {
	t.Helper()
	results, e := r.v.Batch(ops...)
	if e != want {
		t.Fatalf("Batch: %d, want %d", e, want)
	}
	if e != api.OK && len(results) != 0 {
		t.Fatalf("Batch: %+v beside the error %d", results, e)
	}
	if e == api.OK && len(results) != len(ops) {
		t.Fatalf("Batch: %d results of %d operations", len(results), len(ops))
	}
	return results
}

func (r *rig) wantCode(t *testing.T, want api.Errno) {
	t.Helper()
	if e := r.v.Code(); e != want {
		t.Fatalf("Code: %d, want %d", e, want)
	}
}

// calls is the store calls from a number on: a letter each, and a star behind those of the root.
func (r *rig) calls(from int) string {
	var b strings.Builder
	for _, c := range r.w.Trace()[from:] {
		b.WriteByte(" GPDL"[c.Kind])
		if c.Name == api.RootName {
			b.WriteByte('*')
		}
	}
	return b.String()
}

func (r *rig) wantCalls(t *testing.T, from int, want string) {
	t.Helper()
	if is := r.calls(from); is != want {
		t.Errorf("the calls are %q, want %q", is, want)
	}
}

// setTape is a rig whose vault goes on with another tape: a vault keeps the one that it was taken up with.
func (r *rig) setTape(t *testing.T, bytes string) {
	t.Helper()
	r.bytes, r.t = bytes, mustTape(t, bytes)
	r.takeUp(t, api.OK)
}

// twin is a rig that goes on as this one does, and has nothing in common with it. Its vault is taken up anew: where this
// one's is in step with the store, the two hold one state.
func (r *rig) twin(t *testing.T) *rig {
	t.Helper()
	bytes := r.bytes[r.t.Drawn():]
	x := &rig{c: r.c, w: mustAdopt(t, r.w.Dump(), r.w.Kept()), bytes: bytes, t: mustTape(t, bytes), s: mustReal(t)}
	if s, ok := r.s.(*seal.Ideal); ok {
		x.s = mustIdeal(t, s.Table())
	}
	x.takeUp(t, api.OK)
	return x
}

// spoilAll plans that all objects but the root get another blob ahead of the next store call.
func (r *rig) spoilAll(t *testing.T) {
	t.Helper()
	for _, b := range r.w.Dump() {
		if b.Name == api.RootName {
			continue
		}
		if e := r.w.Plan(api.Edit{Before: r.w.Calls(), Kind: api.EditAdd, Name: b.Name, Blob: "x"}); e != api.OK {
			t.Fatalf("Plan: %d", e)
		}
	}
}

func sameResult(a, b api.Result) bool {
	return a.Code == b.Code && a.Data == b.Data && a.N == b.N && a.Kind == b.Kind && a.Size == b.Size && slices.Equal(a.Names, b.Names)
}

func sameCall(a, b api.Call) bool {
	return a.Kind == b.Kind && a.Name == b.Name && a.Blob == b.Blob && a.Code == b.Code && a.Reply == b.Reply && slices.Equal(a.Names, b.Names)
}

func wantResults(t *testing.T, is []api.Result, want ...api.Result) {
	t.Helper()
	if !slices.EqualFunc(is, want, sameResult) {
		t.Errorf("the results are %+v, want %+v", is, want)
	}
}

// wantSame is that the same was done to what two rigs hang on.
func wantSame(t *testing.T, what string, a, b *rig) {
	t.Helper()
	if !slices.EqualFunc(a.w.Trace(), b.w.Trace(), sameCall) || a.w.Kept() != b.w.Kept() || a.w.Down() != b.w.Down() || !slices.Equal(a.w.Dump(), b.w.Dump()) {
		t.Fatalf("%s: another trace, register or store: %q, want %q", what, a.calls(0), b.calls(0))
	}
	if a.t.Drawn() != b.t.Drawn() || a.t.Left() != b.t.Left() {
		t.Fatalf("%s: %d bytes were drawn, want %d", what, a.t.Drawn(), b.t.Drawn())
	}
	if s, ok := a.s.(*seal.Ideal); ok && !slices.Equal(s.Table(), b.s.(*seal.Ideal).Table()) {
		t.Fatalf("%s: another table of the sealer", what)
	}
}

func mkdir(path string) api.Op  { return api.Op{Kind: api.OpMkdir, Path: path} }
func create(path string) api.Op { return api.Op{Kind: api.OpCreate, Path: path} }
func stat(path string) api.Op   { return api.Op{Kind: api.OpStat, Path: path} }
func list(path string) api.Op   { return api.Op{Kind: api.OpList, Path: path} }

func read(path string, at, n int) api.Op {
	return api.Op{Kind: api.OpRead, Path: path, At: at, N: n}
}

func write(path string, at int, data string) api.Op {
	return api.Op{Kind: api.OpWrite, Path: path, At: at, Data: data}
}

// A single operation as one of a batch, and as its own call.

// answer is what a single operation answered; what its call has not is zero.
type answer struct {
	code       api.Errno
	data       string
	n          int
	names      []string
	kind, size int
}

func sameAnswer(a, b answer) bool {
	return a.code == b.code && a.data == b.data && a.n == b.n && a.kind == b.kind && a.size == b.size && slices.Equal(a.names, b.names)
}

// ask does the operation by the call of its name.
func ask(v *Vault, op api.Op) (a answer) {
	switch op.Kind {
	case api.OpMkdir:
		a.code = v.Mkdir(op.Path)
	case api.OpCreate:
		a.code = v.Create(op.Path)
	case api.OpRead:
		a.data, a.code = v.ReadAt(op.Path, op.At, op.N)
	case api.OpWrite:
		a.n, a.code = v.WriteAt(op.Path, op.At, op.Data)
	case api.OpCut:
		a.code = v.Truncate(op.Path, op.N)
	case api.OpRename:
		a.code = v.Rename(op.Path, op.To)
	case api.OpRemove:
		a.code = v.Remove(op.Path)
	case api.OpRmdir:
		a.code = v.Rmdir(op.Path)
	case api.OpList:
		a.names, a.code = v.Readdir(op.Path)
	case api.OpStat:
		a.kind, a.size, a.code = v.Stat(op.Path)
	}
	return a
}

// told is what P18.5 says of a batch of the one operation that answered this.
func told(kind int, results []api.Result, e api.Errno) answer {
	if e != api.OK {
		return answer{code: e}
	}
	r := results[0]
	a := answer{code: r.Code}
	switch kind {
	case api.OpRead:
		a.data = r.Data
	case api.OpWrite:
		a.n = r.N
	case api.OpList:
		a.names = r.Names
	case api.OpStat:
		a.kind, a.size = r.Kind, r.Size
	}
	return a
}

// everyOp is one of each operation on a path.
func everyOp(path string) []api.Op {
	var ops []api.Op
	for kind := api.OpMkdir; kind <= api.OpStat; kind++ {
		ops = append(ops, api.Op{Kind: kind, Path: path, To: path, N: 1, Data: "x"})
	}
	return ops
}

// wantAll is that every call of a vault answers this error, and nothing beside it.
func wantAll(t *testing.T, what string, v *Vault, want api.Errno) {
	t.Helper()
	for _, op := range everyOp("/") {
		if a := ask(v, op); !sameAnswer(a, answer{code: want}) || a.names != nil {
			t.Errorf("%s: the operation %d: %+v, want %d", what, op.Kind, a, want)
		}
	}
	for _, ops := range [][]api.Op{nil, {}, {stat("/")}, {stat("/"), {}}, make([]api.Op, 3), make([]api.Op, 100)} {
		if l, e := v.Batch(ops...); l != nil || e != want {
			t.Errorf("%s: a batch of %d: %+v, %d, want %d", what, len(ops), l, e, want)
		}
	}
}

// wantOver is that a vault came to this: so say all its calls, without a call of the world, and without a draw.
func (r *rig) wantOver(t *testing.T, what string, want api.Errno) {
	t.Helper()
	trace, kept, left, drawn := len(r.w.Trace()), r.w.Kept(), r.t.Left(), r.t.Drawn()
	wantAll(t, what, r.v, want)
	r.wantCode(t, want)
	if len(r.w.Trace()) != trace || r.w.Kept() != kept || r.t.Left() != left || r.t.Drawn() != drawn {
		t.Errorf("%s: calls of the world, or draws: %q", what, r.calls(trace))
	}
}

// The chapter's examples.

func TestExampleFormat(t *testing.T) {
	bothSorts(t, func(t *testing.T, real bool) {
		r := blank(t, six(), longTape, real)
		r.takeUp(t, api.ErrBlank)
		r.format(t, api.OK)
		r.format(t, api.ErrVault)
		r.takeUp(t, api.OK)
		r.wantCode(t, api.OK)
	})
}

func TestExampleOperations(t *testing.T) {
	bothSorts(t, func(t *testing.T, real bool) {
		v := made(t, six(), real).v
		hi := "\x00\x00hi"
		for i, row := range []struct {
			op   api.Op
			want answer
		}{
			{mkdir("/a"), answer{}},
			{mkdir("/a"), answer{code: api.ErrThere}},
			{mkdir("a"), answer{code: api.ErrPath}},
			{create("/a/x"), answer{}},
			{stat("/a/x"), answer{kind: api.IsFile}},
			{stat("/"), answer{kind: api.IsDir}},
			{list("/a"), answer{names: []string{"x"}}},
			{write("/a/x", 2, "hi"), answer{n: 2}},
			{read("/a/x", 0, 10), answer{data: hi}},
			{read("/a/x", 4, 1), answer{}},
			{stat("/a/x"), answer{kind: api.IsFile, size: 4}},
			{api.Op{Kind: api.OpCut, Path: "/a/x", N: 3}, answer{}},
			{read("/a/x", 1, 9), answer{data: "\x00h"}},
			{api.Op{Kind: api.OpRename, Path: "/a/x", To: "/y"}, answer{}},
			{list("/"), answer{names: []string{"a", "y"}}},
			{api.Op{Kind: api.OpRmdir, Path: "/a"}, answer{}},
			{read("/y", 0, 9), answer{data: hi[:3]}},
			{api.Op{Kind: api.OpRemove, Path: "/y"}, answer{}},
			{list("/"), answer{}},
		} {
			if a := ask(v, row.op); !sameAnswer(a, row.want) {
				t.Errorf("row %d: %+v: %+v, want %+v", i, row.op, a, row.want)
			}
		}
	})
}

func TestExampleBatch(t *testing.T) {
	bothSorts(t, func(t *testing.T, real bool) {
		r := made(t, six(), real)
		r.batch(t, api.OK, mkdir("/a"), create("/a/x"))
		r.batch(t, api.OK, write("/a/x", 2, "h"))
		calls := r.w.Calls()
		r.batch(t, api.ErrBatch, stat("/"), stat("/"), stat("/"))
		r.wantCalls(t, calls, "")
		r.batch(t, api.OK)
		r.wantCalls(t, calls, "GG"+"PPPPP*"+"DDDD")
		wantResults(t, r.batch(t, api.OK, write("/a/x", 0, "ab"), read("/a/x", 0, 9)), api.Result{N: 2}, api.Result{Data: "abh", N: 3})
	})
}

func TestExampleDryTape(t *testing.T) {
	r := blank(t, six(), someBytes(1120+10), false)
	r.format(t, api.OK)
	r.takeUp(t, api.OK)
	calls := r.w.Calls()
	for range 2 {
		if kind, size, e := r.v.Stat("/"); kind != 0 || size != 0 || e != api.ErrEntropy || r.t.Left() != 0 {
			t.Errorf("Stat: %d, %d, %d, %d bytes are left", kind, size, e, r.t.Left())
		}
		r.wantCode(t, api.OK)
	}
	r.wantCalls(t, calls, "")
}

func TestExamplePower(t *testing.T) {
	bothSorts(t, func(t *testing.T, real bool) {
		r := made(t, six(), real)
		r.batch(t, api.OK, mkdir("/a"), create("/f"))
		r.batch(t, api.OK, write("/f", 0, "said"))
		r.w.Arm(3)
		if kind, size, e := r.v.Stat("/"); kind != 0 || size != 0 || e != api.ErrDown {
			t.Errorf("Stat: %d, %d, %d", kind, size, e)
		}
		r.wantOver(t, "the power is off", api.ErrDead)
		r.w.Power()
		r.wantOver(t, "the power is back", api.ErrDead)
		dead := r.v
		r.takeUp(t, api.OK)
		wantResults(t, r.batch(t, api.OK, list("/"), read("/f", 0, 9)), api.Result{Names: []string{"a", "f"}}, api.Result{Data: "said", N: 4})
		r.v = dead
		r.wantOver(t, "another vault was taken up", api.ErrDead)
	})
}

func TestExampleTampered(t *testing.T) {
	bothSorts(t, func(t *testing.T, real bool) {
		r := made(t, six(), real)
		// The first slot of the next batch is that of the first row, which was the first put.
		if e := r.w.Plan(api.Edit{Before: r.w.Calls(), Kind: api.EditSet, Put: 0, Blob: "x"}); e != api.OK {
			t.Fatalf("Plan: %d", e)
		}
		calls := r.w.Calls()
		r.batch(t, api.ErrTampered)
		r.wantCalls(t, calls, "G")
		v := r.v
		r.takeUp(t, api.ErrTampered)
		r.format(t, api.ErrTampered)
		r.wantCalls(t, calls, "G")
		r.v = v
		r.wantOver(t, "an object was changed", api.ErrTampered)
	})
}

func TestExampleNil(t *testing.T) {
	var v *Vault
	wantAll(t, "a nil vault", v, api.ErrNil)
	if e := v.Code(); e != api.ErrNil {
		t.Errorf("Code of a nil vault: %d", e)
	}
	r := made(t, six(), false)
	if v, e := Recover(nil, r.t, r.s, six()); v != nil || e != api.ErrNil {
		t.Errorf("Recover(nil, ..): %v, %d", v, e)
	}
}

// P18.1, P18.2

// oddSealer fills the interface by itself.
type oddSealer struct {
	seal.Sealer
	coins func(size int) int
}

func (o oddSealer) Coins(size int) int { return o.coins(size) }

func noSealers() []seal.Sealer {
	return []seal.Sealer{
		nil, (*seal.Real)(nil), (*seal.Ideal)(nil), &seal.Real{}, &seal.Ideal{}, // R3: the last two are as nil ones
		oddSealer{coins: func(int) int { return 0 }},
	}
}

func TestWhatIsMissing(t *testing.T) {
	r := made(t, six(), false)
	kept, trace, left, table := r.w.Kept(), len(r.w.Trace()), r.t.Left(), len(r.s.(*seal.Ideal).Table())
	bad := api.Config{} // ErrNil comes ahead of ErrConfig
	try := func(what string, w *world.World, x *tape.Tape, s seal.Sealer) {
		t.Helper()
		for _, c := range []api.Config{six(), bad} {
			if e := Format(w, x, s, c); e != api.ErrNil {
				t.Errorf("%s: Format: %d", what, e)
			}
			if v, e := Recover(w, x, s, c); v != nil || e != api.ErrNil {
				t.Errorf("%s: Recover: %v, %d", what, v, e)
			}
		}
	}
	for _, down := range []bool{false, true} {
		if down { // and ahead of ErrDown
			r.w.Arm(0)
		}
		try("no world", nil, r.t, r.s)
		try("no tape", r.w, nil, r.s)
		try("no tape, no sealer", r.w, nil, nil)
		try("nothing", nil, nil, nil)
		for i, s := range noSealers() {
			try(fmt.Sprintf("no sealer, number %d", i), r.w, r.t, s)
			try(fmt.Sprintf("no world, no sealer, number %d", i), nil, r.t, s)
		}
	}
	if r.w.Kept() != kept || len(r.w.Trace()) != trace || r.t.Left() != left || len(r.s.(*seal.Ideal).Table()) != table {
		t.Error("with something missing something was done")
	}
	r.w.Power()
	r.takeUp(t, api.OK)
}

func TestSealerIsAskedThroughItsInterface(t *testing.T) {
	var asked []int
	r := blank(t, six(), longTape, true)
	s := r.s
	r.s = oddSealer{Sealer: s, coins: func(size int) int {
		asked = append(asked, size)
		return s.Coins(size)
	}}
	r.format(t, api.OK)
	if len(asked) == 0 || asked[0] != 0 {
		t.Errorf("Format has asked for the coins of %v", asked)
	}
	asked = nil
	r.takeUp(t, api.OK)
	if len(asked) == 0 || asked[0] != 0 {
		t.Errorf("Recover has asked for the coins of %v", asked)
	}
	asked = nil
	r.batch(t, api.OK, create("/f"))
	if !slices.Contains(asked, six().Page) {
		t.Errorf("Batch has asked for the coins of %v", asked)
	}
}

// broken is a sealer of nobody's, that throws at one of its calls.
type broken struct {
	seal.Sealer
	at *string
}

func (b broken) Coins(size int) int {
	if *b.at == "Coins" {
		panic("Coins")
	}
	return b.Sealer.Coins(size)
}

func (b broken) Fresh(coins string) bool {
	if *b.at == "Fresh" {
		panic(fmt.Errorf("Fresh"))
	}
	return b.Sealer.Fresh(coins)
}

func (b broken) Seal(kind int, name, text, coins string) (string, api.Errno) {
	if *b.at == "Seal" {
		panic(api.ErrFits)
	}
	return b.Sealer.Seal(kind, name, text, coins)
}

func (b broken) Open(kind int, name, blob string) (string, api.Errno) {
	if *b.at == "Open" {
		panic(17)
	}
	return b.Sealer.Open(kind, name, blob)
}

func TestNoPanicWhateverTheSealer(t *testing.T) {
	if e := Format(world.New(), mustTape(t, longTape), broken{}, six()); e != api.ErrNil {
		t.Errorf("Format with a sealer of nothing: %d", e)
	}
	if v, e := Recover(world.New(), mustTape(t, longTape), oddSealer{}, six()); v != nil || e != api.ErrNil {
		t.Errorf("Recover with a sealer of nothing: %v, %d", v, e)
	}
	for _, at := range []string{"Coins", "Fresh", "Seal", "Open"} {
		r, now := made(t, six(), false), ""
		r.s = broken{r.s, &now}
		r.takeUp(t, api.OK)
		r.batch(t, api.OK, create("/f"))
		now = at
		if _, e := r.v.Batch(stat("/f")); e == api.OK || e == api.ErrDown || e == api.ErrTampered {
			t.Errorf("%s: a batch with a sealer that throws: %d", at, e)
		}
		r.wantCode(t, api.OK)
		if e := Format(world.New(), mustTape(t, longTape), r.s, six()); at != "Open" && e == api.OK {
			t.Errorf("%s: a vault is made with a sealer that throws", at)
		}
		if v, e := Recover(r.w, r.t, r.s, six()); (at == "Coins" || at == "Open") && (v != nil || e == api.OK) {
			t.Errorf("%s: a vault is taken up with a sealer that throws", at)
		}
		now = ""
		wantResults(t, r.batch(t, api.OK, stat("/f")), api.Result{Kind: api.IsFile})
	}
}

// TestFormatIsCommits: whatever commit.Format answers and does, Format answers and does.
func TestFormatIsCommits(t *testing.T) {
	count := map[api.Errno]int{}
	bothSorts(t, func(t *testing.T, real bool) {
		for _, bytes := range []string{longTape, "", longTape[:1119], longTape[:1120], longTape[:1264]} {
			for arm := -1; arm < 14; arm++ {
				for _, c := range []api.Config{six(), {}, {Slots: 2, Files: 3, Dirs: 2, MaxFile: 100, Least: 16, Page: 63}, {Slots: 1, Files: 1, Least: 16, Page: 64}} {
					a, b := blank(t, c, bytes, real), blank(t, c, bytes, real)
					a.w.Arm(arm)
					b.w.Arm(arm)
					for range 2 {
						e, f := Format(a.w, a.t, a.s, c), commit.Format(b.w, b.t, b.s, c)
						if e != f {
							t.Fatalf("Format: %d, want %d", e, f)
						}
						wantSame(t, "Format", a, b)
						count[e]++
					}
				}
			}
		}
	})
	for _, e := range []api.Errno{api.OK, api.ErrConfig, api.ErrDown, api.ErrVault, api.ErrEntropy} {
		if count[e] < 10 {
			t.Errorf("%d answers %d: too few to say something: %v", count[e], e, count)
		}
	}
}

func TestRecoverAnswers(t *testing.T) {
	bothSorts(t, func(t *testing.T, real bool) {
		r := blank(t, six(), longTape, real)
		r.takeUp(t, api.ErrBlank)
		r.format(t, api.OK)

		calls := r.w.Calls()
		r.takeUp(t, api.OK)
		r.wantCalls(t, calls, "G*GGL")
		r.wantCode(t, api.OK)

		other := six()
		other.Least = 17
		for _, c := range []api.Config{other, {}} {
			if v, e := Recover(r.w, r.t, r.s, c); v != nil || e != api.ErrConfig {
				t.Errorf("Recover with %+v: %v, %d", c, v, e)
			}
		}
		for k := range 5 { // Load, Get, Get, Get, List
			r.w.Arm(k)
			r.takeUp(t, api.ErrDown)
			r.w.Power()
		}
		r.w.Arm(5)
		r.takeUp(t, api.OK)
		r.w.Power()
		r.spoilAll(t)
		r.takeUp(t, api.ErrTampered)
		r.w.Arm(0)
		r.takeUp(t, api.ErrDown)
	})
}

// TestRecoverTakesAnyTape: it draws nothing, so it needs nothing of the tape; the vault's batches do.
func TestRecoverTakesAnyTape(t *testing.T) {
	r := made(t, six(), false)
	r.batch(t, api.OK, create("/f"))
	r.setTape(t, "")
	r.batch(t, api.ErrEntropy)
	r.wantCode(t, api.OK)
	r.setTape(t, longTape[50000:])
	wantResults(t, r.batch(t, api.OK, list("/")), api.Result{Names: []string{"f"}})
}

func TestRecoverSettles(t *testing.T) {
	// A batch is cut off behind the Put of the root, and ahead of it: 2 Gets, 4 Puts, Pend, the Put of the root, Commit.
	for arm, there := range map[int]bool{8: true, 7: false} {
		r := made(t, six(), false)
		r.w.Arm(arm)
		if e := r.v.Mkdir("/a"); e != api.ErrDown {
			t.Fatalf("Mkdir: %d", e)
		}
		r.w.Power()
		r.takeUp(t, api.OK)
		if names, e := r.v.Readdir("/"); e != api.OK || slices.Equal(names, []string{"a"}) != there {
			t.Errorf("armed with %d: %q, %d", arm, names, e)
		}
	}
}

// P18.3

// TestZeroVault: one that no call made is as a nil one.
func TestZeroVault(t *testing.T) {
	for _, v := range []*Vault{nil, {}, new(Vault)} {
		wantAll(t, "a vault that no call made", v, api.ErrNil)
		if e := v.Code(); e != api.ErrNil {
			t.Errorf("Code: %d", e)
		}
	}
	var v Vault
	if e := v.Code(); e != api.ErrNil {
		t.Errorf("Code: %d", e)
	}
}

func TestZeroObjects(t *testing.T) {
	r := made(t, six(), false)
	Format(&world.World{}, r.t, r.s, six())
	Format(world.New(), &tape.Tape{}, r.s, six())
	if v, e := Recover(&world.World{}, r.t, r.s, six()); (v == nil) != (e != api.OK) {
		t.Errorf("Recover: %v, %d", v, e)
	}
	v, e := Recover(r.w, &tape.Tape{}, r.s, six())
	if (v == nil) != (e != api.OK) {
		t.Errorf("Recover: %v, %d", v, e)
	}
	if _, e := v.Batch(); e == api.OK {
		t.Error("a batch that draws from a tape that is not there")
	}
}

// TestCodeStays: whatever comes behind, the code is what the vault came to first.
func TestCodeStays(t *testing.T) {
	bothSorts(t, func(t *testing.T, real bool) {
		for _, want := range []api.Errno{api.ErrDead, api.ErrTampered} {
			r := made(t, six(), real)
			r.batch(t, api.OK, create("/f"))
			if want == api.ErrDead {
				r.w.Arm(5)
				r.batch(t, api.ErrDown)
			} else {
				r.spoilAll(t)
				r.batch(t, api.ErrTampered)
			}
			r.wantOver(t, "at once", want)
			r.w.Power()
			r.wantOver(t, "behind Power", want)
			r.w.Arm(2)
			r.wantOver(t, "armed", want)
			r.w.Arm(0)
			r.wantOver(t, "with the power off", want)
			r.w.Power()
			r.spoilAll(t)
			Recover(r.w, r.t, r.s, r.c) // all is spoilt: tampered, be it again
			r.wantOver(t, "behind a Recover of a spoilt store", want)
			if !r.w.Kept().Stopped {
				t.Error("the register is not stopped")
			}
			r.t.Draw(r.t.Left() + 1)
			r.wantOver(t, "with a dry tape", want)
		}
	})
}

// TestDownAheadOfTampered: where the power goes off at the register's Stop, the batch answers ErrDown, and the vault is dead.
func TestDownAheadOfTampered(t *testing.T) {
	r := made(t, six(), false)
	r.spoilAll(t)
	r.w.Arm(1)
	r.batch(t, api.ErrDown)
	r.wantOver(t, "the Stop was not done", api.ErrDead)
	if r.w.Kept().Stopped {
		t.Error("the register is stopped")
	}
	r.w.Power()
	r.takeUp(t, api.ErrTampered)
}

func TestPowerOffAheadOfTheBatch(t *testing.T) {
	r := made(t, six(), false)
	r.w.Arm(0)
	// What is refused ahead of all calls says nothing of the power.
	r.batch(t, api.ErrBatch, stat("/"), stat("/"), stat("/"))
	r.wantCode(t, api.OK)
	r.batch(t, api.ErrDown, stat("/"))
	r.wantOver(t, "the power was off", api.ErrDead)
}

// TestErrorsOfOperationsAreNoEnd: what a single operation answers is not what the batch answers.
func TestErrorsOfOperationsAreNoEnd(t *testing.T) {
	r := made(t, six(), false)
	for _, path := range []string{"", "a", "/a", "/a/b", "/..", "/" + strings.Repeat("n", 33)} {
		for _, op := range everyOp(path) {
			if op.Kind == api.OpMkdir || op.Kind == api.OpCreate {
				continue
			}
			if a := ask(r.v, op); a.code == api.OK || !sameAnswer(a, answer{code: a.code}) {
				t.Errorf("%+v: %+v", op, a)
			}
			r.wantCode(t, api.OK)
		}
	}
}

// TestDeadVaultLetsGo: it needs nothing but its code, and keeps nothing else.
func TestDeadVaultLetsGo(t *testing.T) {
	r := made(t, six(), false)
	r.w.Arm(1)
	r.batch(t, api.ErrDown)
	if !reflect.DeepEqual(*r.v.hold, hold{code: api.ErrDead}) {
		t.Errorf("a dead vault holds %+v", *r.v.hold)
	}
	r.w.Power()
	r.takeUp(t, api.OK)
	r.spoilAll(t)
	r.batch(t, api.ErrTampered)
	if !reflect.DeepEqual(*r.v.hold, hold{code: api.ErrTampered}) {
		t.Errorf("a vault that was tampered with holds %+v", *r.v.hold)
	}
}

// TestCopyOfAVault: the document says nothing of it; it is the same vault.
func TestCopyOfAVault(t *testing.T) {
	r := made(t, six(), false)
	other := *r.v
	r.batch(t, api.OK, create("/f"))
	if names, e := other.Readdir("/"); e != api.OK || !slices.Equal(names, []string{"f"}) {
		t.Errorf("Readdir: %q, %d", names, e)
	}
	r.batch(t, api.OK, create("/g"))
	r.w.Arm(0)
	r.batch(t, api.ErrDown)
	if e := other.Code(); e != api.ErrDead {
		t.Errorf("Code: %d", e)
	}
}

// P18.4

func TestResultsInTheirOrder(t *testing.T) {
	c := api.Config{Slots: 6, Files: 3, Dirs: 2, MaxFile: 100, Least: 16, Page: 256}
	bothSorts(t, func(t *testing.T, real bool) {
		r := made(t, c, real)
		wantResults(t, r.batch(t, api.OK, mkdir("/d"), create("/d/f"), write("/d/f", 1, "ab"), stat("/d/f"), read("/d/f", 1, 1), list("/d")),
			api.Result{}, api.Result{}, api.Result{N: 2}, api.Result{Kind: api.IsFile, Size: 3}, api.Result{Data: "a", N: 1}, api.Result{Names: []string{"f"}})
		wantResults(t, r.batch(t, api.OK, create("/d/f"), api.Op{}, mkdir(""), api.Op{Kind: api.OpRemove, Path: "/d/f"}, stat("/d/f"), list("/d")),
			api.Result{Code: api.ErrThere}, api.Result{Code: api.ErrOp}, api.Result{Code: api.ErrPath}, api.Result{}, api.Result{Code: api.ErrAbsent}, api.Result{})
	})
}

func TestBatchOfAsManyAsSlots(t *testing.T) {
	for _, slots := range []int{1, 2, 3, api.MaxSlots} {
		c := api.Config{Slots: slots, Files: 1, Least: 16, Page: 4096}
		r := blank(t, c, longTape, false)
		r.format(t, api.OK)
		r.takeUp(t, api.OK)
		ops := slices.Repeat([]api.Op{stat("/")}, slots+1)
		for range 2 {
			left, calls := r.t.Left(), r.w.Calls()
			r.batch(t, api.ErrBatch, ops...)
			if r.t.Left() != left || r.w.Calls() != calls {
				t.Error("a batch that was refused has drawn, or called")
			}
			r.wantCode(t, api.OK)
			for _, result := range r.batch(t, api.OK, ops[1:]...) {
				if !sameResult(result, api.Result{Kind: api.IsDir}) {
					t.Errorf("%+v", result)
				}
			}
		}
	}
}

// TestEmptyBatch: a batch without operations is one: all its calls are made, and the state goes on.
func TestEmptyBatch(t *testing.T) {
	bothSorts(t, func(t *testing.T, real bool) {
		r := made(t, six(), real)
		r.batch(t, api.OK, create("/f"), write("/f", 0, "kept"))
		for _, ops := range [][]api.Op{nil, {}} {
			calls, drawn, current := r.w.Calls(), r.t.Drawn(), r.w.Kept().Current
			r.batch(t, api.OK, ops...)
			r.wantCalls(t, calls, "GG"+"PPPPP*"+"DDDD")
			if r.t.Drawn() == drawn || r.w.Kept().Current == current {
				t.Error("a batch without operations draws nothing, or leaves the root")
			}
		}
		wantResults(t, r.batch(t, api.OK, read("/f", 0, 9)), api.Result{Data: "kept", N: 4})
	})
}

// TestOldStateBehindARefusal: a batch that was refused has done nothing to the vault.
func TestOldStateBehindARefusal(t *testing.T) {
	r := made(t, six(), false)
	r.batch(t, api.OK, create("/f"), write("/f", 0, "old"))
	x := r.twin(t)
	r.batch(t, api.ErrBatch, write("/f", 0, "new"), create("/g"), create("/h"))
	for range 3 {
		calls, twins := r.w.Calls(), x.w.Calls()
		wantResults(t, r.batch(t, api.OK, read("/f", 0, 9), list("/")), api.Result{Data: "old", N: 3}, api.Result{Names: []string{"f"}})
		x.batch(t, api.OK, read("/f", 0, 9), list("/"))
		if !slices.EqualFunc(r.w.Trace()[calls:], x.w.Trace()[twins:], sameCall) {
			t.Error("behind a batch that was refused another trace")
		}
	}
}

// TestDryTapes: a tape that ends at any place of a batch's draws: nothing is called, and the vault stays what it was.
func TestDryTapes(t *testing.T) {
	for n := 0; n <= 904; n += 8 {
		r := made(t, six(), false)
		r.batch(t, api.OK, create("/f"))
		r.setTape(t, longTape[60000:60000+n])
		calls, kept := r.w.Calls(), r.w.Kept()
		if n == 904 {
			r.batch(t, api.OK, mkdir("/d"))
			r.wantCode(t, api.OK)
			continue
		}
		for range 2 {
			r.batch(t, api.ErrEntropy, mkdir("/d"))
			r.wantCode(t, api.OK)
			if r.t.Left() != 0 || r.w.Calls() != calls || r.w.Kept() != kept {
				t.Fatalf("%d bytes: %d are left, %q", n, r.t.Left(), r.calls(calls))
			}
		}
		r.batch(t, api.ErrBatch, stat("/"), stat("/"), stat("/"))
		r.setTape(t, longTape[70000:])
		wantResults(t, r.batch(t, api.OK, list("/")), api.Result{Names: []string{"f"}})
	}
}

// unlike is a rig whose store holds a state with a file that no row is of, sealed by hand: Recover takes it up, no batch does.
func unlike(t *testing.T) *rig {
	t.Helper()
	r := made(t, six(), true)
	st := r.v.hold.state
	files := api.TreeState{Files: 3, Dirs: 2, Nodes: []api.Node{{Kind: api.IsFile, Name: "f"}}}
	bodies, e := index.Encode(six(), files, st.Pool)
	if e != api.OK {
		t.Fatalf("index.Encode: %d", e)
	}
	blobs := map[string]string{}
	for _, b := range r.w.Dump() {
		blobs[b.Name] = b.Blob
	}
	lay := func(kind int, name, body string, size int) string {
		text, e := frame.Pack(kind, body, size)
		blob, f := r.s.Seal(kind, name, text, longTape[70000:70000+r.s.Coins(len(text))])
		if e != api.OK || f != api.OK {
			t.Fatalf("frame.Pack: %d, Seal: %d", e, f)
		}
		blobs[name] = blob
		return seal.Tag(blob)
	}
	root := api.Root{Config: six()}
	for i, body := range bodies {
		name := st.Root.Pages[i].Name
		root.Pages = append(root.Pages, api.Ref{Name: name, Tag: lay(api.KindPage, name, body, six().Page)})
	}
	body, e := index.EncodeRoot(six(), root)
	if e != api.OK {
		t.Fatalf("index.EncodeRoot: %d", e)
	}
	tag := lay(api.KindRoot, api.RootName, body, 96)
	var all []api.Blob
	for name, blob := range blobs {
		all = append(all, api.Blob{Name: name, Blob: blob})
	}
	x := &rig{c: six(), w: mustAdopt(t, all, api.Register{Current: tag}), bytes: longTape, t: mustTape(t, longTape), s: r.s}
	x.takeUp(t, api.OK)
	return x
}

// TestAnyOtherError: with it too the state stays, and the vault is none that came to something.
func TestAnyOtherError(t *testing.T) {
	r := unlike(t)
	calls, left, was := r.w.Calls(), r.t.Left(), r.v.hold.state
	for range 2 {
		wantAll(t, "tree and table do not fit", r.v, api.ErrPool)
		r.wantCode(t, api.OK)
	}
	if r.w.Calls() != calls || r.t.Left() != left || !reflect.DeepEqual(r.v.hold.state, was) {
		t.Error("a batch that was refused has called, drawn, or changed the state")
	}
}

// TestTwoVaultsOfOneWorld: each has the state that it had; one whose objects another has replaced finds that out.
func TestTwoVaultsOfOneWorld(t *testing.T) {
	r := made(t, six(), false)
	old := r.v
	r.takeUp(t, api.OK)
	r.batch(t, api.OK, create("/f"))
	if e := old.Mkdir("/d"); e != api.ErrTampered || old.Code() != api.ErrTampered {
		t.Errorf("Mkdir: %d, the code %d", e, old.Code())
	}
	// What the other came to is none of this one's business: its batch looks at the store alone.
	wantResults(t, r.batch(t, api.OK, list("/")), api.Result{Names: []string{"f"}})
	r.wantCode(t, api.OK)
	r.takeUp(t, api.ErrTampered)
}

// TestOldOrNew: wherever the power goes off, the vault is dead, and the next one has all of the batch or nothing of it.
func TestOldOrNew(t *testing.T) {
	bothSorts(t, func(t *testing.T, real bool) {
		count := map[string]int{}
		for k := range 14 { // 2 Gets, 4 Puts, Pend, a Put, Commit, 4 Deletes: 13 calls
			r := made(t, six(), real)
			r.batch(t, api.OK, create("/f"), write("/f", 0, "old"))
			r.w.Arm(k)
			e := ask(r.v, write("/f", 0, "new")).code
			if (e == api.OK) != (k >= 13) || e != api.OK && e != api.ErrDown {
				t.Fatalf("armed with %d: %d", k, e)
			}
			if e == api.ErrDown {
				r.wantOver(t, "cut off", api.ErrDead)
			}
			r.w.Power()
			r.takeUp(t, api.OK)
			data, e := r.v.ReadAt("/f", 0, 9)
			if e != api.OK || data != "new" && data != "old" || (data == "new") != (k >= 8) {
				t.Errorf("armed with %d: %q, %d", k, data, e)
			}
			count[data]++
		}
		if count["old"] != 8 || count["new"] != 6 {
			t.Errorf("%v", count)
		}
	})
}

// P18.5

// TestSinglesAreBatchesOfOne: beside each single call the batch of the operation that it names, on a twin, with fields that
// it does not name left zero.
func TestSinglesAreBatchesOfOne(t *testing.T) {
	numbers := []int{math.MinInt, -1, 0, 1, 2, 99, 100, 101, math.MaxInt}
	paths := []string{"/", "/d", "/d/f", "/g", "/none", "", "d", "/d/"}
	rmdir := api.Op{Kind: api.OpRmdir, Path: "/e"}
	ops := []api.Op{mkdir("/e"), create("/e/h"), rmdir, {Kind: api.OpRemove, Path: "/e/h"}, rmdir}
	for i, p := range paths {
		for _, kind := range []int{api.OpList, api.OpStat, api.OpMkdir, api.OpCreate} {
			ops = append(ops, api.Op{Kind: kind, Path: p})
		}
		for j, at := range numbers {
			n := numbers[(i+j)%len(numbers)]
			ops = append(ops, read(p, at, 9), read(p, 0, at), read(p, at, n), write(p, at, "bytes"), api.Op{Kind: api.OpCut, Path: p, N: at})
		}
		for _, q := range paths {
			ops = append(ops, api.Op{Kind: api.OpRename, Path: p, To: q})
		}
		ops = append(ops, write(p, 0, strings.Repeat("x", 100)), write(p, 0, strings.Repeat("x", 101)), write(p, 3, ""))
	}
	for _, p := range paths {
		ops = append(ops, api.Op{Kind: api.OpRmdir, Path: p}, api.Op{Kind: api.OpRemove, Path: p})
	}
	r := made(t, six(), false)
	r.batch(t, api.OK, mkdir("/d"), create("/d/f"))
	r.batch(t, api.OK, write("/d/f", 0, "some bytes"), create("/g"))
	x := r.twin(t)
	ok := map[int]int{}
	for _, op := range ops {
		if r.t.Left() < 5000 {
			bytes := someBytes(90000 + len(ok))
			r.setTape(t, bytes)
			x.setTape(t, bytes)
		}
		calls, twins := r.w.Calls(), x.w.Calls()
		results, e := x.v.Batch(op)
		is, want := ask(r.v, op), told(op.Kind, results, e)
		if !sameAnswer(is, want) || is.code != api.OK && !sameAnswer(is, answer{code: is.code}) {
			t.Fatalf("%+v: %+v, want %+v", op, is, want)
		}
		if !slices.EqualFunc(r.w.Trace()[calls:], x.w.Trace()[twins:], sameCall) || r.w.Kept() != x.w.Kept() || r.t.Left() != x.t.Left() {
			t.Fatalf("%+v: another trace, register or tape", op)
		}
		if len(r.w.Trace())-calls != 11 {
			t.Fatalf("%+v: %d calls, not those of one batch", op, len(r.w.Trace())-calls)
		}
		if is.code == api.OK {
			ok[op.Kind]++
		}
	}
	for kind := api.OpMkdir; kind <= api.OpStat; kind++ {
		if ok[kind] == 0 {
			t.Errorf("no operation %d was done: %v", kind, ok)
		}
	}
}

// TestSinglesTellTheBatchsError: ahead of the operation's own, and nothing beside it.
func TestSinglesTellTheBatchsError(t *testing.T) {
	for _, path := range []string{"/", "/f", "no path"} {
		for _, op := range everyOp(path) {
			r := made(t, six(), false)
			r.batch(t, api.OK, create("/f"), write("/f", 0, "x"))
			all := func(want api.Errno) {
				t.Helper()
				if a := ask(r.v, op); !sameAnswer(a, answer{code: want}) {
					t.Errorf("%+v: %+v, want %d", op, a, want)
				}
			}
			r.setTape(t, "")
			all(api.ErrEntropy)
			all(api.ErrEntropy)
			r.setTape(t, longTape[50000:])
			r.w.Arm(0)
			all(api.ErrDown)
			all(api.ErrDead)
			r.w.Power()
			r.takeUp(t, api.OK)
			r.spoilAll(t)
			all(api.ErrTampered)
			all(api.ErrTampered)
		}
	}
}

// TestSinglesWithOneSlot: a single operation has room in the least of batches.
func TestSinglesWithOneSlot(t *testing.T) {
	r := made(t, api.Config{Slots: 1, Files: 1, Least: 16, Page: 64}, false)
	if e := r.v.Create("/f"); e != api.OK {
		t.Errorf("Create: %d", e)
	}
	if e := r.v.Create("/g"); e != api.ErrRoom {
		t.Errorf("Create: %d", e)
	}
	if e := r.v.Mkdir("/d"); e != api.ErrRoom {
		t.Errorf("Mkdir: %d", e)
	}
	if n, e := r.v.WriteAt("/f", 0, "x"); n != 0 || e != api.ErrBig {
		t.Errorf("WriteAt: %d, %d", n, e)
	}
	r.batch(t, api.ErrBatch, stat("/"), stat("/"))
}

// TestStateLiesInTheStore: everything that a vault is told lies in the store: another one, over a copy of it, says the same.
func TestStateLiesInTheStore(t *testing.T) {
	r := made(t, six(), true)
	for _, op := range []api.Op{mkdir("/d"), create("/d/f"), write("/d/f", 7, "end"), create("/g"), {Kind: api.OpRename, Path: "/d/f", To: "/g"}, {Kind: api.OpRmdir, Path: "/d"}} {
		if a := ask(r.v, op); a.code != api.OK {
			t.Fatalf("%+v: %+v", op, a)
		}
		x := r.twin(t)
		for _, look := range []api.Op{list("/"), list("/d"), stat("/d/f"), stat("/g"), read("/d/f", 0, 99), read("/g", 0, 99)} {
			if a, b := ask(r.v, look), ask(x.v, look); !sameAnswer(a, b) {
				t.Errorf("%+v: %+v, another vault says %+v", look, a, b)
			}
		}
	}
	if data, e := r.v.ReadAt("/g", 0, 99); e != api.OK || data != "\x00\x00\x00\x00\x00\x00\x00end" {
		t.Errorf("%q, %d", data, e)
	}
}

// P18.6

// roomy is a list with room behind its end, in which x stands.
func roomy[T any](l []T, x T) []T { return append(slices.Clone(l), x, x, x)[:len(l)] }

func behindEnd[T any](l []T) []T { return l[len(l) : len(l)+3] }

// scribble writes over all of a list's memory, spare room too.
func scribble[T any](l []T, x T) {
	l = l[:cap(l)]
	for i := range l {
		l[i] = x
	}
}

func TestOperationsStay(t *testing.T) {
	r := made(t, six(), false)
	for _, ops := range [][]api.Op{
		{mkdir("/d"), create("/d/f")}, {write("/d/f", 3, "abc"), list("/d")}, {create("/g"), {Kind: api.OpRename, Path: "/g", To: "/d/f"}}, {{}, {}, {}}, nil,
	} {
		in := roomy(ops, api.Op{Path: "behind"})
		r.v.Batch(in...)
		if !slices.Equal(in, ops) || slices.ContainsFunc(behindEnd(in), func(op api.Op) bool { return op != api.Op{Path: "behind"} }) {
			t.Errorf("the operations that were handed in: %+v", in[:len(in)+3])
		}
	}
	// A dead vault leaves them, too; and none is kept.
	in := []api.Op{create("/d/f"), list("/d")}
	r.batch(t, api.OK, in...)
	scribble(in, api.Op{Kind: api.OpRemove, Path: "/d/f"})
	wantResults(t, r.batch(t, api.OK, list("/d")), api.Result{Names: []string{"f"}})
	r.w.Arm(0)
	r.batch(t, api.ErrDown)
	in = roomy([]api.Op{mkdir("/x")}, api.Op{Path: "behind"})
	r.batch(t, api.ErrDead, in...)
	if in[0] != mkdir("/x") || behindEnd(in)[0].Path != "behind" {
		t.Errorf("the operations that were handed in: %+v", in)
	}
}

func TestAnswersAreNewMemory(t *testing.T) {
	r := made(t, six(), false)
	r.batch(t, api.OK, mkdir("/d"), create("/d/f"))
	names := []string{"f"}
	for range 3 {
		results := r.batch(t, api.OK, list("/d"), list("/d"))
		scribble(results[0].Names, "x")
		if !slices.Equal(results[1].Names, names) {
			t.Error("the names of two results are one list")
		}
		scribble(results[1].Names, "x")
		scribble(results, api.Result{Data: "x", Names: []string{"y"}})
		told, e := r.v.Readdir("/d")
		if e != api.OK || !slices.Equal(told, names) {
			t.Errorf("what was written into an answer is seen by the next: %q, %d", told, e)
		}
		other, _ := r.v.Readdir("/d")
		scribble(told, "z")
		if !slices.Equal(other, names) {
			t.Errorf("two answers are one list: %q", other)
		}
	}
	r.takeUp(t, api.OK)
	wantResults(t, r.batch(t, api.OK, list("/d")), api.Result{Names: names})
}

// TestNothingInCommon: what is done to a vault, another one over another world does not see.
func TestNothingInCommon(t *testing.T) {
	bothSorts(t, func(t *testing.T, real bool) {
		a := made(t, six(), real)
		alone := made(t, six(), real)
		b := made(t, six(), real)
		// With what one answers one may hand nothing to the other: their steps are laid among each other.
		a.batch(t, api.OK, create("/f"), write("/f", 0, "x"))
		alone.batch(t, api.OK, create("/f"), write("/f", 0, "x"))
		b.batch(t, api.OK, mkdir("/d"))
		b.w.Arm(0)
		b.batch(t, api.ErrDown)
		b.wantCode(t, api.ErrDead)
		a.wantCode(t, api.OK)
		a.batch(t, api.OK, list("/"), mkdir("/e"))
		alone.batch(t, api.OK, list("/"), mkdir("/e"))
		wantSame(t, "beside another vault", a, alone)
		b.w.Power()
		b.takeUp(t, api.OK)
		a.spoilAll(t)
		a.batch(t, api.ErrTampered)
		b.wantCode(t, api.OK)
		wantResults(t, b.batch(t, api.OK, list("/")), api.Result{Names: []string{"d"}})
	})
}

func TestManyAtOnce(t *testing.T) {
	want := made(t, six(), false)
	want.batch(t, api.OK, create("/f"), write("/f", 0, "x"))
	var all sync.WaitGroup
	for range 8 {
		all.Go(func() {
			w, x, s := world.New(), mustTape(t, longTape), mustIdeal(t, nil)
			e := Format(w, x, s, six())
			v, f := Recover(w, x, s, six())
			_, g := v.Batch(create("/f"), write("/f", 0, "x"))
			if e != api.OK || f != api.OK || g != api.OK || !slices.Equal(w.Dump(), want.w.Dump()) {
				t.Errorf("%d, %d, %d: another store", e, f, g)
			}
		})
	}
	all.Wait()
}

// The document's words done once more, in step with the program.

// plain is a vault by the document's words: a state that is handed to commit, and a code.
type plain struct {
	r    *rig
	st   api.State
	code api.Errno
}

func (p *plain) batch(ops []api.Op) ([]api.Result, api.Errno) {
	if p == nil {
		return nil, api.ErrNil
	}
	if p.code != api.OK {
		return nil, p.code
	}
	st, results, e := commit.Batch(p.r.w, p.r.t, p.r.s, p.r.c, p.st, ops)
	if e == api.OK {
		p.st = st
	}
	if e == api.ErrDown {
		p.code = api.ErrDead
	}
	if e == api.ErrTampered {
		p.code = api.ErrTampered
	}
	return results, e
}

// pair is two rigs to which the same is done: on one the program works, on the other the words. There may be several vaults
// on each, one behind the other taken up.
type pair struct {
	is, want *rig
	vaults   []*Vault
	plains   []*plain
	codes    map[api.Errno]int
}

func newPair(t *testing.T, r *rand.Rand, codes map[api.Errno]int) *pair {
	t.Helper()
	c := api.Config{Slots: 1 + r.Intn(3), Files: 1 + r.Intn(4), Dirs: r.Intn(3), MaxFile: r.Intn(80), Least: 16 + r.Intn(30), Page: 64 + r.Intn(300)}
	bytes, real := someBytes(4000+r.Intn(30000)), r.Intn(3) == 0
	return &pair{is: blank(t, c, bytes, real), want: blank(t, c, bytes, real), vaults: []*Vault{nil}, plains: []*plain{nil}, codes: codes}
}

func (p *pair) compare(t *testing.T, what string, is, want api.Errno) {
	t.Helper()
	if is != want {
		t.Fatalf("%s: %d, want %d", what, is, want)
	}
	p.codes[is]++
	for i, v := range p.vaults {
		code := api.ErrNil
		if p.plains[i] != nil {
			code = p.plains[i].code
		}
		if v.Code() != code {
			t.Fatalf("%s: the code is %d, want %d", what, v.Code(), code)
		}
	}
	wantSame(t, what, p.is, p.want)
}

func (p *pair) step(t *testing.T, r *rand.Rand) {
	t.Helper()
	switch r.Intn(10) {
	case 0:
		e := Format(p.is.w, p.is.t, p.is.s, p.is.c)
		p.compare(t, "Format", e, commit.Format(p.want.w, p.want.t, p.want.s, p.want.c))
	case 1, 2:
		p.takeUp(t, r)
	case 3, 4:
		p.batch(t, r)
	case 5, 6, 7:
		p.single(t, r)
	case 8:
		if k := r.Intn(60); r.Intn(3) == 0 {
			p.is.w.Arm(k)
			p.want.w.Arm(k)
		}
		if r.Intn(2) == 0 {
			p.is.w.Power()
			p.want.w.Power()
		}
	case 9:
		if r.Intn(12) == 0 {
			e := someEdit(r, p.is.w)
			p.is.w.Plan(e)
			p.want.w.Plan(e)
		}
	}
}

func (p *pair) takeUp(t *testing.T, r *rand.Rand) {
	t.Helper()
	c := p.is.c
	if r.Intn(30) == 0 {
		c.Least++
	}
	v, e := Recover(p.is.w, p.is.t, p.is.s, c)
	st, f := commit.Recover(p.want.w, p.want.s, c)
	if (v == nil) != (e != api.OK) {
		t.Fatalf("Recover: %v beside %d", v, e)
	}
	if e == api.OK {
		p.vaults, p.plains = append(p.vaults, v), append(p.plains, &plain{r: p.want, st: st})
	}
	p.compare(t, "Recover", e, f)
}

// some is one of the vaults, mostly the last.
func (p *pair) some(r *rand.Rand) (*Vault, *plain) {
	i := len(p.vaults) - 1
	if r.Intn(20) == 0 {
		i = r.Intn(len(p.vaults))
	}
	return p.vaults[i], p.plains[i]
}

func (p *pair) batch(t *testing.T, r *rand.Rand) {
	t.Helper()
	var ops []api.Op
	for range r.Intn(p.is.c.Slots + 1) {
		ops = append(ops, someOp(r, p.is.c.MaxFile, r.Intn(14)-1))
	}
	if r.Intn(20) == 0 {
		ops = make([]api.Op, p.is.c.Slots+1)
	}
	v, w := p.some(r)
	is, e := v.Batch(ops...)
	want, f := w.batch(ops)
	if !slices.EqualFunc(is, want, sameResult) {
		t.Fatalf("Batch: %+v, want %+v", is, want)
	}
	p.compare(t, "Batch", e, f)
}

func (p *pair) single(t *testing.T, r *rand.Rand) {
	t.Helper()
	kinds := []int{api.OpCreate, api.OpCreate, api.OpWrite, api.OpWrite, api.OpRead, 1 + r.Intn(10), 1 + r.Intn(10)}
	op := someOp(r, p.is.c.MaxFile, kinds[r.Intn(len(kinds))])
	v, w := p.some(r)
	is := ask(v, op)
	results, e := w.batch([]api.Op{op})
	want := told(op.Kind, results, e)
	if !sameAnswer(is, want) {
		t.Fatalf("%+v: %+v, want %+v", op, is, want)
	}
	p.compare(t, "a single operation", is.code, want.code)
}

func somePath(r *rand.Rand) string {
	names := []string{"/a", "/b", "/c"}
	path := names[r.Intn(len(names))]
	if r.Intn(4) == 0 {
		path += names[r.Intn(2)]
	}
	if r.Intn(50) == 0 {
		return []string{"", "/", "a", "/a//b", "/.."}[r.Intn(5)]
	}
	return path
}

func someOp(r *rand.Rand, most, kind int) api.Op {
	op := api.Op{Kind: kind, Path: somePath(r), To: somePath(r), At: r.Intn(most + 2), N: r.Intn(most + 2)}
	op.Data = strings.Repeat(string(rune('a'+r.Intn(26))), r.Intn(most+2))
	if r.Intn(3) > 0 {
		op.At = 0
	}
	return op
}

// someEdit is one of the adversary's, ahead of one of the next store calls.
func someEdit(r *rand.Rand, w *world.World) api.Edit {
	calls := w.Calls()
	e := api.Edit{Before: calls + r.Intn(20), Kind: 1 + r.Intn(6), Put: r.Intn(calls + 5), From: r.Intn(calls + 5)}
	e.Name = []string{"x", api.RootName}[r.Intn(2)]
	e.Blob = strings.Repeat("z", r.Intn(70))
	if d := w.Dump(); len(d) > 0 && r.Intn(2) == 0 {
		e.Name, e.Blob = d[r.Intn(len(d))].Name, d[r.Intn(len(d))].Blob
	}
	return e
}

func TestInStepWithTheWords(t *testing.T) {
	r := rand.New(rand.NewSource(18))
	codes := map[api.Errno]int{}
	for range 400 {
		p := newPair(t, r, codes)
		for range 60 {
			p.step(t, r)
		}
	}
	for _, e := range []api.Errno{
		api.OK, api.ErrNil, api.ErrEntropy, api.ErrDown, api.ErrConfig, api.ErrBatch, api.ErrTampered, api.ErrBlank, api.ErrVault, api.ErrDead,
		api.ErrPath, api.ErrAbsent, api.ErrThere, api.ErrRoom, api.ErrBig,
	} {
		if codes[e] < 20 {
			t.Errorf("%d answers %d: too few to say something: %v", codes[e], e, codes)
		}
	}
}
