package casket

import (
	"math/rand"
	"slices"
	"strings"
	"testing"

	"casket/api"
	"casket/frame"
	"casket/leak"
	"casket/path"
	"casket/sim"
)

// P23.9, and P23.8's last words: two scripts with equal hints have equal traces.

// hintsOf is the hints of a script, told the fates that it has over a tape.
func hintsOf(t *testing.T, c api.Config, tape string, acts []api.Act) []api.Hint {
	t.Helper()
	o, e := leak.Of(c, acts)
	s, f := sim.New(c, tape)
	if e != api.OK || f != api.OK {
		t.Fatalf("leak.Of, sim.New: %d, %d", e, f)
	}
	var hints []api.Hint
	for h, more := o.Next(); more; h, more = o.Next() {
		hints = append(hints, h)
		fate, e := s.Act(h)
		if e != api.OK || o.Tell(fate) != api.OK {
			t.Fatalf("sim.Act(%+v): %d", h, e)
		}
	}
	return hints
}

func sameHint(a, b api.Hint) bool {
	return a.Kind == b.Kind && a.I == b.I && a.Edit == b.Edit && slices.Equal(a.Touches, b.Touches)
}

// traceOfActs is the trace of a machine over the ideal sealer, and its answers.
func traceOfActs(t *testing.T, c api.Config, tape string, acts []api.Act) ([]api.Call, []api.Answer) {
	t.Helper()
	m := mustNew(t, playOf(c, true, tape))
	var answers []api.Answer
	for _, a := range acts {
		answers = append(answers, m.Do(a))
	}
	return m.Trace(), answers
}

var hintsTape = someBytes(200000)

// wantSameHints is two scripts that whoever holds the store cannot tell from each other.
func wantSameHints(t *testing.T, c api.Config, a, b []api.Act) {
	t.Helper()
	tape := hintsTape
	if x, y := hintsOf(t, c, tape, a), hintsOf(t, c, tape, b); !slices.EqualFunc(x, y, sameHint) {
		t.Fatalf("of %+v\n%+v\nhas the hints %+v\n%+v\nhas %+v", c, a, x, b, y)
	}
	x, answers := traceOfActs(t, c, tape, a)
	y, others := traceOfActs(t, c, tape, b)
	if !sameCalls(x, y) {
		t.Fatalf("of %+v\n%+v\nhas another trace than\n%+v", c, a, b)
	}
	for i := range answers {
		if answers[i].Code != others[i].Code {
			t.Fatalf("%+v is answered %d, and %+v %d", a[i], answers[i].Code, b[i], others[i].Code)
		}
	}
}

// withOps is a script whose batches are others.
func withOps(acts []api.Act, change func(ops []api.Op) []api.Op) []api.Act {
	var list []api.Act
	for _, a := range acts {
		if a.Kind == api.ActBatch {
			a.Ops = change(slices.Clone(a.Ops))
		}
		list = append(list, a)
	}
	return list
}

// fitting is a script of which every batch has at most K operations.
func fitting(r *rand.Rand, c api.Config, n int, honest bool) []api.Act {
	return withOps(someScript(r, c, n, honest), func(ops []api.Op) []api.Op { return ops[:min(len(ops), c.Slots)] })
}

// plainScript is a script in which every batch is done, so that the model says what each of them finds.
func plainScript(r *rand.Rand, c api.Config) []api.Act {
	acts := []api.Act{actOf(api.ActFormat), actOf(api.ActRecover)}
	for range 40 {
		acts = append(acts, batchOf(someOps(r, c, oneOf(r, c.Slots, r.Intn(c.Slots+1)))...))
	}
	return acts
}

func forSeeds(n int64, test func(r *rand.Rand, c api.Config)) {
	for seed := range n {
		r := rand.New(rand.NewSource(seed))
		test(r, someConfig(r))
	}
}

func TestBytesLeaveTheHints(t *testing.T) {
	forSeeds(60, func(r *rand.Rand, c api.Config) {
		acts := fitting(r, c, 25, false)
		other := withOps(acts, func(ops []api.Op) []api.Op {
			for i := range ops {
				b := make([]byte, len(ops[i].Data))
				r.Read(b)
				ops[i].Data = string(b)
			}
			return ops
		})
		wantSameHints(t, c, acts, other)
	})
}

// TestNamesLeaveTheHints changes all names by a map that makes two names of no two.
func TestNamesLeaveTheHints(t *testing.T) {
	for seed := range int64(60) {
		r := rand.New(rand.NewSource(seed))
		c := someConfig(r)
		long := strings.Repeat("~", 31)
		to := [][]string{{"x", "y", "z", "w"}, {"b", "a", "g", "f"}, {long + "1", long + "2", long + "3", "!"}, {"f", "a", "...", "b"}}[seed%4]
		change := func(p string) string {
			if mapped, e := path.Map(p, []string{"a", "b", "f", "g"}, to); e == api.OK {
				return mapped
			}
			return p // what is no path has no names
		}
		acts := fitting(r, c, 25, false)
		wantSameHints(t, c, acts, withOps(acts, func(ops []api.Op) []api.Op {
			for i := range ops {
				ops[i].Path, ops[i].To = change(ops[i].Path), change(ops[i].To)
			}
			return ops
		}))
	}
}

// isIdle is whether an operation is a Stat, a Readdir, or fails there.
func isIdle(m *model, op api.Op) bool {
	r, _ := m.copy().do(op)
	return op.Kind == api.OpStat || op.Kind == api.OpList || r.Code != api.OK
}

// otherIdle is another operation that is idle there.
func otherIdle(r *rand.Rand, m *model) api.Op {
	for {
		if op := someOp(r, m.c); isIdle(m, op) {
			return op
		}
	}
}

// TestIdleOperationsLeaveTheHints replaces them by others, or leaves them out, at the end of their batch.
func TestIdleOperationsLeaveTheHints(t *testing.T) {
	replaced, out := 0, 0
	forSeeds(60, func(r *rand.Rand, c api.Config) {
		m, acts := newModel(c), plainScript(r, c)
		wantSameHints(t, c, acts, withOps(acts, func(ops []api.Op) []api.Op {
			least := 0 // of the batch's operations that cannot be left out
			for i, op := range ops {
				if isIdle(m, op) {
					ops[i] = otherIdle(r, m)
					replaced++
				} else {
					least = i + 1
				}
				m.do(op)
			}
			keep := least + r.Intn(len(ops)-least+1)
			out += len(ops) - keep
			return ops[:keep]
		}))
	})
	if replaced < 300 || out < 50 {
		t.Errorf("%d operations alone were replaced, and %d left out", replaced, out)
	}
}

// TestReadsAndWritesLeaveTheHints replaces a Write within the file's size by a Read that does not fail, and the other way.
func TestReadsAndWritesLeaveTheHints(t *testing.T) {
	reads, writes := 0, 0
	forSeeds(80, func(r *rand.Rand, c api.Config) {
		m, acts := newModel(c), plainScript(r, c)
		wantSameHints(t, c, acts, withOps(acts, func(ops []api.Op) []api.Op {
			for i, op := range ops {
				was, _ := m.copy().do(api.Op{Kind: api.OpStat, Path: op.Path})
				result, _ := m.do(op)
				if result.Code != api.OK || was.Kind != api.IsFile {
					continue
				}
				switch {
				case op.Kind == api.OpWrite && op.At+len(op.Data) <= was.Size:
					ops[i] = api.Op{Kind: api.OpRead, Path: op.Path, At: r.Intn(c.MaxFile + 50), N: r.Intn(200)}
					writes++
				case op.Kind == api.OpRead:
					at := r.Intn(was.Size + 1)
					ops[i] = api.Op{Kind: api.OpWrite, Path: op.Path, At: at, Data: someBytes(r.Intn(was.Size - at + 1))}
					reads++
				}
			}
			return ops
		}))
	})
	if reads < 20 || writes < 20 {
		t.Errorf("%d Reads and %d Writes alone were replaced", reads, writes)
	}
}

// placed is an operation's class as P23.9 says it: what touches a file's object that the batch touched already is as one
// that touches none.
func placed(is class, touched []int) class {
	if is.sort == isUse && slices.Contains(touched, is.file) {
		return class{}
	}
	return is
}

// likeOps is other operations, of the same classes place by place, and with the same buckets behind the batch; false: none
// were found.
func likeOps(r *rand.Rand, a, b *model, ops []api.Op) ([]api.Op, bool) {
	one, two := a.copy(), b.copy()
	var like []api.Op
	var touched []int
	for _, op := range ops {
		_, is := one.do(op)
		is = placed(is, touched)
		found := false
		for try := 0; try < 60 && !found; try++ {
			other := someOp(r, b.c)
			if try == 59 { // the operation itself may do it
				other = op
			}
			next := two.copy()
			if _, as := next.do(other); placed(as, touched) == is {
				like, two, found = append(like, other), next, true
			}
		}
		if !found {
			return nil, false
		}
		if is.sort == isMade || is.sort == isUse {
			touched = append(touched, is.file)
		}
		touched = slices.DeleteFunc(touched, func(file int) bool { return is.sort == isEnd && file == is.file })
	}
	x, y := a.sizes(ops), b.sizes(like)
	for i := range x {
		m, _ := frame.Size(x[i], a.c.Least)
		n, _ := frame.Size(y[i], a.c.Least)
		if m != n {
			return nil, false
		}
	}
	return like, true
}

// TestClassesAndBucketsLeaveTheHints goes on with two vaults that hold unlike things, batch by batch.
func TestClassesAndBucketsLeaveTheHints(t *testing.T) {
	changed, done := 0, 0
	forSeeds(80, func(r *rand.Rand, c api.Config) {
		a, b := newModel(c), newModel(c)
		begin := []api.Act{actOf(api.ActFormat), actOf(api.ActRecover)}
		acts, others := begin, slices.Clone(begin)
		for range 25 {
			ops := someOps(r, c, r.Intn(c.Slots+1))
			like, ok := likeOps(r, a, b, ops)
			if !ok {
				continue
			}
			a.batch(ops)
			b.batch(like)
			acts, others = append(acts, batchOf(ops...)), append(others, batchOf(like...))
			for i := range ops {
				done++
				if ops[i] != like[i] {
					changed++
				}
			}
		}
		wantSameHints(t, c, acts, others)
	})
	if changed < 300 || changed*2 < done {
		t.Errorf("of %d operations %d alone were replaced", done, changed)
	}
}

// TestWhatDoesShow is the other way: of what P23.9 does not name the hints tell.
func TestWhatDoesShow(t *testing.T) {
	begin := []api.Act{actOf(api.ActFormat), actOf(api.ActRecover), batchOf(create("/f"), create("/g")), batchOf(write("/f", "0123456789ab"))}
	and := func(ops ...api.Op) []api.Act { return append(slices.Clone(begin), batchOf(ops...)) }
	idle := and(stat("/"))
	for _, ops := range [][]api.Op{
		{read("/f", 1)}, {read("/g", 1)}, {create("/h")}, {remove("/f")}, {stat("/"), read("/f", 1)}, {write("/f", strings.Repeat("x", 99))},
	} {
		tape := someBytes(40000)
		if slices.EqualFunc(hintsOf(t, six(), tape, idle), hintsOf(t, six(), tape, and(ops...)), sameHint) {
			continue
		}
		x, _ := traceOfActs(t, six(), tape, idle)
		y, _ := traceOfActs(t, six(), tape, and(ops...))
		if sameCalls(x, y) {
			t.Errorf("%+v has other hints, and the same trace", ops)
		}
	}
	for _, l := range [][2][]api.Op{
		{{stat("/")}, {}},
		{{mkdir("/a")}, {rename("/f", "/x")}},
		{{read("/f", 1)}, {write("/f", "x"), stat("/f")}},
		{{write("/f", strings.Repeat("x", 13))}, {write("/f", "a"), read("/f", 9)}},
		{{remove("/f")}, {rename("/g", "/f")}},
	} {
		wantSameHints(t, six(), and(l[0]...), and(l[1]...))
	}
}
