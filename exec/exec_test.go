package exec

import (
	"fmt"
	"math"
	"math/rand"
	"reflect"
	"slices"
	"strings"
	"sync"
	"testing"

	"casket/api"
	"casket/plan"
	"casket/pool"
	"casket/tree"
)

// slot is told as the chapter tells it: Was to File.
func slot(was, file int) api.Slot { return api.Slot{Was: was, File: file} }

func planOf(slots []api.Slot, effects ...api.Effect) api.Plan {
	p := api.Plan{Slots: slots}
	for _, e := range effects {
		p.Steps = append(p.Steps, api.Step{Effect: e})
	}
	return p
}

// same is a slot that keeps its file.
func same(file int) []api.Slot { return []api.Slot{slot(file, file)} }

func made(file int) api.Effect { return api.Effect{Kind: api.EffMade, File: file, Gone: -1} }
func gone(file int) api.Effect { return api.Effect{Kind: api.EffGone, File: file, Gone: -1} }

func over(file, gone int) api.Effect {
	return api.Effect{Kind: api.EffOver, File: file, Gone: gone}
}

func read(file, at, n, size int) api.Effect {
	return api.Effect{Kind: api.EffRead, File: file, Gone: -1, At: at, N: n, Size: size}
}

func write(file, at int, data string, size int) api.Effect {
	return api.Effect{Kind: api.EffWrite, File: file, Gone: -1, At: at, Data: data, Size: size}
}

func cut(file, n, size int) api.Effect {
	return api.Effect{Kind: api.EffCut, File: file, Gone: -1, N: n, Size: size}
}

func wantContents(t *testing.T, what string, p api.Plan, contents []string, want ...string) api.Outcome {
	t.Helper()
	o, e := Apply(p, contents)
	if e != api.OK || !slices.Equal(o.Contents, want) || len(o.Results) != len(p.Steps) {
		t.Errorf("%s: Apply: %.300q, %d results, %d, want %.300q", what, o.Contents, len(o.Results), e, want)
	}
	return o
}

func wantData(t *testing.T, what string, p api.Plan, contents []string, data ...string) {
	t.Helper()
	o, e := Apply(p, contents)
	if is := dataOf(o); e != api.OK || !slices.Equal(is, data) {
		t.Errorf("%s: Apply: %.300q was read, %d, want %.300q", what, is, e, data)
	}
}

func dataOf(o api.Outcome) []string {
	var data []string
	for _, r := range o.Results {
		data = append(data, r.Data)
	}
	return data
}

func wantRefused(t *testing.T, what string, p api.Plan, contents ...string) {
	t.Helper()
	o, e := Apply(p, contents)
	if e != api.ErrContent || !reflect.DeepEqual(o, api.Outcome{}) {
		t.Errorf("%s: Apply: %+v, %d, want nothing and %d", what, o, e, api.ErrContent)
	}
}

func sameResult(a, b api.Result) bool {
	return a.Code == b.Code && a.Data == b.Data && a.N == b.N && slices.Equal(a.Names, b.Names) && a.Kind == b.Kind && a.Size == b.Size
}

func sameOutcome(a, b api.Outcome) bool {
	return slices.Equal(a.Contents, b.Contents) && slices.EqualFunc(a.Results, b.Results, sameResult)
}

// What follows does the document's words once more, one byte at a time and over lists that are gone through, against which
// the program is held.

type plainFile struct {
	number int
	text   string
}

func plainAt(live []plainFile, number int) int {
	return slices.IndexFunc(live, func(f plainFile) bool { return f.number == number })
}

func plainStart(slots []api.Slot, contents []string) ([]plainFile, bool) {
	if len(slots) != len(contents) {
		return nil, false
	}
	var live []plainFile
	for i, s := range slots {
		switch {
		case s.Was < -1, s.Was == -1 && contents[i] != "", s.Was != -1 && plainAt(live, s.Was) >= 0:
			return nil, false
		case s.Was >= 0:
			live = append(live, plainFile{s.Was, contents[i]})
		}
	}
	return live, true
}

// plainLay lays the bytes down one by one; the bytes ahead of at are filled up where there are none.
func plainLay(text string, at int, data string) string {
	for i := range len(data) {
		for len(text) <= at+i {
			text += "\x00"
		}
		text = text[:at+i] + data[i:i+1] + text[at+i+1:]
	}
	return text
}

func plainCut(text string, n int) string {
	for len(text) < n {
		text += "\x00"
	}
	for len(text) > n {
		text = text[:len(text)-1]
	}
	return text
}

// plainDo is a step that is not refused: the files behind it, what was read, and whether the words fit. Its numbers are
// small, so that no sum wraps round.
func plainDo(live []plainFile, e api.Effect) ([]plainFile, string, bool) {
	live = slices.Clone(live)
	file, away := plainAt(live, e.File), plainAt(live, e.Gone)
	switch e.Kind {
	case api.EffMade:
		if file >= 0 || e.File < 0 {
			return nil, "", false
		}
		return append(live, plainFile{e.File, ""}), "", true
	case api.EffRead:
		if file < 0 || e.Size != len(live[file].text) || e.At < 0 || e.N < 0 || e.N > 0 && e.At+e.N > e.Size {
			return nil, "", false
		}
		data := ""
		for i := range e.N {
			data += live[file].text[e.At+i : e.At+i+1]
		}
		return live, data, true
	case api.EffWrite:
		if file < 0 || e.At < 0 || e.At+len(e.Data) > 65536 {
			return nil, "", false
		}
		live[file].text = plainLay(live[file].text, e.At, e.Data)
		return live, "", e.Size == len(live[file].text)
	case api.EffCut:
		if file < 0 || e.N < 0 || e.N > 65536 || e.Size != e.N {
			return nil, "", false
		}
		live[file].text = plainCut(live[file].text, e.N)
		return live, "", true
	case api.EffGone:
		if file < 0 {
			return nil, "", false
		}
		return slices.Delete(live, file, file+1), "", true
	case api.EffOver:
		if away < 0 {
			return nil, "", false
		}
		return slices.Delete(live, away, away+1), "", true
	}
	return nil, "", false
}

func plainEnd(slots []api.Slot, live []plainFile) ([]string, bool) {
	var contents []string
	var held []int
	for _, s := range slots {
		text := ""
		if s.File != -1 {
			at := plainAt(live, s.File)
			if at < 0 || slices.Contains(held, s.File) {
				return nil, false
			}
			text = live[at].text
			held = append(held, s.File)
		}
		contents = append(contents, text)
	}
	for _, f := range live {
		if !slices.Contains(held, f.number) {
			return nil, false
		}
	}
	return contents, true
}

func plainApply(p api.Plan, contents []string) (api.Outcome, bool) {
	live, ok := plainStart(p.Slots, contents)
	if !ok {
		return api.Outcome{}, false
	}
	var o api.Outcome
	for _, s := range p.Steps {
		r := s.Result
		if r.Code == api.OK && s.Effect.Kind != api.EffNone {
			var data string
			if live, data, ok = plainDo(live, s.Effect); !ok {
				return api.Outcome{}, false
			}
			if s.Effect.Kind == api.EffRead {
				r.Data = data
			}
		}
		o.Results = append(o.Results, r)
	}
	if o.Contents, ok = plainEnd(p.Slots, live); !ok {
		return api.Outcome{}, false
	}
	return o, true
}

// The chapter's examples.

func TestExamples(t *testing.T) {
	dummy, grain := []api.Slot{slot(-1, -1)}, []string{"grain"}
	wantContents(t, "1, nothing", api.Plan{}, nil)
	wantContents(t, "1, a dummy", planOf(dummy), []string{""}, "")
	wantRefused(t, "1, a dummy with a content", planOf(dummy), "x")
	wantRefused(t, "1, no content", planOf(dummy))

	wantData(t, "2, a piece", planOf(same(0), read(0, 1, 3, 5)), grain, "rai")
	wantContents(t, "2, behind it", planOf(same(0), read(0, 1, 3, 5)), grain, "grain")
	wantData(t, "2, nothing", planOf(same(0), read(0, 9, 0, 5)), grain, "")
	wantRefused(t, "2, too far", planOf(same(0), read(0, 3, 3, 5)), "grain")
	wantRefused(t, "2, another size", planOf(same(0), read(0, 1, 3, 4)), "grain")

	wantContents(t, "3, behind its end", planOf(same(0), write(0, 7, "xy", 9)), grain, "grain\x00\x00xy")
	wantContents(t, "3, within", planOf(same(0), write(0, 1, "xy", 5)), grain, "gxyin")
	wantContents(t, "3, no bytes", planOf(same(0), write(0, 7, "", 5)), grain, "grain")

	wantContents(t, "4, twice", planOf(same(0), cut(0, 2, 2), cut(0, 4, 4)), grain, "gr\x00\x00")
	wantRefused(t, "4, another size", planOf(same(0), cut(0, 2, 5)), "grain")

	fresh := []api.Slot{slot(-1, 3)}
	wantContents(t, "5, made", planOf(fresh, made(3), write(3, 0, "oats", 4)), []string{""}, "oats")
	wantRefused(t, "5, not made", planOf(fresh, write(3, 0, "oats", 4)), "")

	moved := []api.Slot{slot(0, -1), slot(-1, 0)}
	wantContents(t, "6", planOf(moved, gone(0), made(0), write(0, 0, "new", 3)), []string{"old", ""}, "", "new")

	wantContents(t, "7, over", planOf([]api.Slot{slot(4, -1)}, over(9, 4)), []string{"x"}, "")
	wantRefused(t, "7, over what is not live", planOf([]api.Slot{slot(4, -1)}, over(9, 9)), "x")
	wantRefused(t, "7, and held on to", planOf(same(4), over(9, 4)), "x")

	wantRefused(t, "8, another file", planOf([]api.Slot{slot(0, 0), slot(1, 1)}, read(2, 0, 0, 0)), "a", "b")
	wantContents(t, "8, exchanged", planOf([]api.Slot{slot(0, 1), slot(1, 0)}), []string{"a", "b"}, "b", "a")

	refused := planOf(same(0), write(7, 0, "x", 1))
	refused.Steps[0].Result.Code = api.ErrAbsent
	o := wantContents(t, "9", refused, grain, "grain")
	if len(o.Results) != 1 || !sameResult(o.Results[0], api.Result{Code: api.ErrAbsent}) {
		t.Errorf("9: the results %+v", o.Results)
	}
}

// P16.1

// fullPlan has every kind of effect, and names in its results; the room behind its lists is marked.
func fullPlan() (api.Plan, []string) {
	mark := api.Step{Result: api.Result{Data: "mark"}}
	steps := make([]api.Step, 0, 12)
	for _, e := range []api.Effect{made(5), write(5, 2, "xy", 4), read(5, 1, 2, 4), cut(5, 3, 3), gone(1), over(0, 2), {}} {
		names := append(make([]string, 0, 4), "a", "b", "behind a", "behind b")[:2]
		steps = append(steps, api.Step{Result: api.Result{Data: "data", N: 3, Names: names, Kind: api.IsFile, Size: 8}, Effect: e})
	}
	for range 5 {
		steps = append(steps, mark)
	}
	slots := append(make([]api.Slot, 0, 6), slot(0, 0), slot(1, -1), slot(2, -1), slot(-1, 5), slot(-7, -7), slot(-7, -7))
	contents := append(make([]string, 0, 6), "zero", "one", "two", "", "mark", "mark")
	return api.Plan{Slots: slots[:4], Steps: steps[:7]}, contents[:4]
}

// wholeLists is a plan and contents with the room behind their lists.
func wholeLists(p api.Plan, contents []string) (api.Plan, []string) {
	p.Slots, p.Steps = p.Slots[:cap(p.Slots)], slices.Clone(p.Steps[:cap(p.Steps)])
	for i := range p.Steps {
		names := p.Steps[i].Result.Names
		p.Steps[i].Result.Names = names[:cap(names)]
	}
	return p, contents[:cap(contents)]
}

func spoilOutcome(o api.Outcome) {
	for _, r := range o.Results {
		for i := range r.Names[:cap(r.Names)] {
			r.Names[:cap(r.Names)][i] = "spoilt"
		}
	}
	for i := range o.Results[:cap(o.Results)] {
		o.Results[:cap(o.Results)][i] = api.Result{Data: "spoilt"}
	}
	for i := range o.Contents[:cap(o.Contents)] {
		o.Contents[:cap(o.Contents)][i] = "spoilt"
	}
}

func TestWhatIsHandedInStays(t *testing.T) {
	for _, spoil := range []func(*api.Plan, []string){
		func(*api.Plan, []string) {},
		func(p *api.Plan, _ []string) { p.Steps[6].Effect.Kind = 7 },
		func(p *api.Plan, _ []string) { p.Slots[0].Was = 2 },
		func(p *api.Plan, _ []string) { p.Slots[3].File = -1 },
		func(_ *api.Plan, contents []string) { contents[3] = "x" },
	} {
		p, contents := fullPlan()
		q, others := fullPlan()
		spoil(&p, contents)
		spoil(&q, others)
		for range 3 {
			o, _ := Apply(p, contents)
			spoilOutcome(o)
			wholeP, wholeContents := wholeLists(p, contents)
			wholeQ, wholeOthers := wholeLists(q, others)
			if !reflect.DeepEqual(wholeP, wholeQ) || !slices.Equal(wholeContents, wholeOthers) {
				t.Fatalf("what was handed in changed: %+v, %q, was %+v, %q", wholeP, wholeContents, wholeQ, wholeOthers)
			}
		}
	}
}

// Nothing of one answer shows in another list of it, nor in a later answer.
func TestListsAreNewMemory(t *testing.T) {
	p, contents := fullPlan()
	one, e := Apply(p, contents)
	want, ok := plainApply(p, contents)
	if e != api.OK || !ok || !sameOutcome(one, want) {
		t.Fatalf("Apply: %+v, %d, want %+v", one, e, want)
	}
	other, _ := Apply(p, contents)
	spoilOutcome(one)
	if !sameOutcome(other, want) {
		t.Errorf("an answer is spoilt by another one: %+v", other)
	}
	for i := range other.Results {
		names := other.Results[i].Names
		_ = append(names, make([]string, cap(names)-len(names))...)
		for k := range names[:cap(names)] {
			names[:cap(names)][k] = fmt.Sprint(i, k)
		}
	}
	for i, r := range other.Results {
		if !slices.Equal(r.Names, []string{fmt.Sprint(i, 0), fmt.Sprint(i, 1)}) {
			t.Errorf("the names of the result %d are shared: %q", i, r.Names)
		}
	}
	third, _ := Apply(p, contents)
	if !sameOutcome(third, want) {
		t.Errorf("a later answer is another one: %+v", third)
	}
}

// One list of names in two results is two lists in the answer.
func TestNamesThatTheStepsShare(t *testing.T) {
	names := []string{"a", "b", "c"}
	p := api.Plan{Steps: []api.Step{{Result: api.Result{Names: names}}, {Result: api.Result{Names: names[:2]}}, {Result: api.Result{Code: api.ErrAbsent, Names: names}}}}
	o := wantContents(t, "shared names", p, nil)
	o.Results[1].Names = append(o.Results[1].Names, "x")
	o.Results[0].Names[0] = "y"
	if !slices.Equal(names, []string{"a", "b", "c"}) || !slices.Equal(o.Results[1].Names, []string{"a", "b", "x"}) || !slices.Equal(o.Results[2].Names, names) {
		t.Errorf("%q in the plan, %+v answered", names, o.Results)
	}
}

func TestNilAndEmptyLists(t *testing.T) {
	for _, slots := range [][]api.Slot{nil, {}} {
		for _, steps := range [][]api.Step{nil, {}} {
			for _, contents := range [][]string{nil, {}} {
				wantContents(t, "no lists", api.Plan{Slots: slots, Steps: steps}, contents)
			}
		}
	}
	for _, names := range [][]string{nil, {}} {
		p := api.Plan{Steps: []api.Step{{Result: api.Result{Names: names, Kind: api.IsDir}}}}
		if o := wantContents(t, "no names", p, nil); len(o.Results[0].Names) != 0 || o.Results[0].Kind != api.IsDir {
			t.Errorf("the results %+v", o.Results)
		}
	}
	for _, contents := range [][]string{nil, {}} {
		wantRefused(t, "no contents of one slot", planOf(same(0)), contents...)
	}
}

func TestObjectsAndBucketsAreNotLookedAt(t *testing.T) {
	for _, n := range []int{0, 1, -1, -2, math.MinInt, math.MaxInt} {
		p := planOf([]api.Slot{{Object: n, Was: 0, File: 1, Bucket: -n}, {Object: n, Was: -1, File: -1, Bucket: n}, {Object: n, Was: 1, File: 0, Bucket: n}})
		wantContents(t, fmt.Sprint(n), p, []string{"a", "", "b"}, "b", "", "a")
	}
}

func TestTheSamePlanTwice(t *testing.T) {
	r := rand.New(rand.NewSource(161))
	for range 500 {
		p, contents := somePlan(r)
		one, e := Apply(p, contents)
		Apply(planOf(same(0), write(0, 0, "between", 7)), []string{""})
		if two, f := Apply(p, contents); e != f || !sameOutcome(one, two) {
			t.Fatalf("Apply(%+v, %q) twice: %+v, %d and %+v, %d", p, contents, one, e, two, f)
		}
	}
}

func TestManyAtOnce(t *testing.T) {
	p, contents := fullPlan()
	want, _ := plainApply(p, contents)
	var all sync.WaitGroup
	for range 8 {
		all.Go(func() {
			for range 200 {
				if o, e := Apply(p, contents); e != api.OK || !sameOutcome(o, want) {
					t.Errorf("Apply: %+v, %d", o, e)
				}
			}
		})
	}
	all.Wait()
}

// edges is numbers at which something may wrap round or be cut off.
var edges = []int{math.MinInt, math.MinInt + 1, -65537, -65536, -2, -1, 0, 1, 2, 5, 6, 65535, 65536, 65537, 1 << 31, 1 << 32, math.MaxInt - 65536, math.MaxInt - 1, math.MaxInt}

// Whatever the numbers of an effect are: it is refused, or it stays within the limits.
func TestNoPanicAtAnyNumbers(t *testing.T) {
	r := rand.New(rand.NewSource(162))
	some := func() int { return edges[r.Intn(len(edges))] }
	taken := 0
	for range 200000 {
		e := api.Effect{Kind: r.Intn(7), File: r.Intn(3) - 1, Gone: r.Intn(3) - 1, At: some(), N: some(), Data: []string{"", "x", "grain"}[r.Intn(3)], Size: some()}
		if r.Intn(20) == 0 {
			e.Kind = some()
		}
		if r.Intn(20) == 0 {
			e.File, e.Gone = some(), some()
		}
		o, code := Apply(planOf([]api.Slot{slot(0, 0), slot(-1, -1)}, e), []string{"grain", ""})
		if code == api.OK {
			taken++
		}
		if code != api.OK && (code != api.ErrContent || !reflect.DeepEqual(o, api.Outcome{})) {
			t.Fatalf("%+v: %+v, %d", e, o, code)
		}
		if code == api.OK && (len(o.Contents) != 2 || len(o.Contents[0]) > 65536 || len(o.Results[0].Data) > 5) {
			t.Fatalf("%+v: %d contents, %d bytes were read", e, len(o.Contents), len(o.Results[0].Data))
		}
	}
	if taken < 1000 {
		t.Errorf("%d were taken: too few to say something", taken)
	}
}

// P16.2

func TestWhatMustFitAtTheStart(t *testing.T) {
	wantRefused(t, "one content too few", planOf([]api.Slot{slot(-1, -1), slot(-1, -1)}), "")
	wantRefused(t, "one content too many", planOf([]api.Slot{slot(-1, -1), slot(-1, -1)}), "", "", "")
	wantRefused(t, "a content without a slot", planOf(nil), "")
	wantRefused(t, "a dummy with a content", planOf([]api.Slot{slot(0, 0), slot(-1, -1)}), "a", "\x00")
	for _, was := range []int{-2, -3, math.MinInt} {
		wantRefused(t, fmt.Sprintf("Was %d", was), planOf([]api.Slot{slot(was, -1)}), "")
		wantRefused(t, fmt.Sprintf("Was %d with a content", was), planOf([]api.Slot{slot(was, -1)}), "x")
		wantRefused(t, fmt.Sprintf("Was and File %d", was), planOf([]api.Slot{slot(was, was)}), "")
	}
	wantRefused(t, "a file in two slots", planOf([]api.Slot{slot(3, 3), slot(3, -1)}), "a", "a")
	wantRefused(t, "a file in two slots, empty", planOf([]api.Slot{slot(3, 3), slot(3, -1)}), "", "")
	wantRefused(t, "a file in two slots, with one between", planOf([]api.Slot{slot(3, -1), slot(4, 4), slot(3, 3)}), "a", "b", "a")
	wantRefused(t, "a file in two slots, and made gone", planOf([]api.Slot{slot(3, -1), slot(3, -1)}, gone(3)), "a", "a")
	many := []api.Slot{slot(-1, -1), slot(-1, -1), slot(0, 0), slot(-1, -1), slot(math.MaxInt, math.MaxInt)}
	wantContents(t, "dummies, and files of any number", planOf(many), []string{"", "", "a", "", "b"}, "", "", "a", "", "b")
	wantContents(t, "an empty file", planOf(same(7)), []string{""}, "")
}

// A content may be longer than a file may be: no word is against it, and what is done to it is done.
func TestAContentOfMoreThanMaxFile(t *testing.T) {
	long := strings.Repeat("g", 65600)
	wantContents(t, "as it is", planOf(same(0)), []string{long}, long)
	wantData(t, "read", planOf(same(0), read(0, 65598, 2, 65600)), []string{long}, "gg")
	wantContents(t, "written to", planOf(same(0), write(0, 65535, "x", 65600)), []string{long}, long[:65535]+"x"+long[65536:])
	wantRefused(t, "written to behind the limit", planOf(same(0), write(0, 65536, "x", 65600)), long)
	wantContents(t, "cut", planOf(same(0), cut(0, 65536, 65536)), []string{long}, long[:65536])
	wantRefused(t, "cut to itself", planOf(same(0), cut(0, 65600, 65600)), long)
}

// P16.3

func TestMade(t *testing.T) {
	fresh := func(file int) []api.Slot { return []api.Slot{slot(-1, file)} }
	for _, file := range []int{0, 1, 65535, 65536, math.MaxInt} {
		wantContents(t, fmt.Sprint("file ", file), planOf(fresh(file), made(file)), []string{""}, "")
		wantRefused(t, fmt.Sprint("twice, file ", file), planOf(fresh(file), made(file), made(file)), "")
		wantRefused(t, fmt.Sprint("live, file ", file), planOf(same(file), made(file)), "x")
		wantRefused(t, fmt.Sprint("live and empty, file ", file), planOf(same(file), made(file)), "")
	}
	for _, file := range []int{-1, -2, math.MinInt} {
		wantRefused(t, fmt.Sprint("file ", file), planOf(fresh(file), made(file)), "")
	}
	wantContents(t, "the other fields are not looked at", planOf(fresh(2), api.Effect{Kind: api.EffMade, File: 2, Gone: 2, At: -5, N: -6, Data: "not laid down", Size: 77}), []string{""}, "")
	wantContents(t, "made, gone and made", planOf(fresh(2), made(2), write(2, 0, "x", 1), gone(2), made(2)), []string{""}, "")
	wantContents(t, "the row of a file that is gone", planOf([]api.Slot{slot(0, 1)}, gone(0), made(1)), []string{"old"}, "")
	wantContents(t, "empty behind what was longer", planOf(same(0), gone(0), made(0), cut(0, 3, 3)), []string{"grain"}, "\x00\x00\x00")
}

func TestRead(t *testing.T) {
	for at := range 7 {
		for n := range 7 {
			p := planOf(same(0), read(0, at, n, 5))
			if n > 0 && at+n > 5 {
				wantRefused(t, fmt.Sprintf("%d bytes from %d on", n, at), p, "grain")
				continue
			}
			data := ""
			if n > 0 {
				data = "grain"[at : at+n]
			}
			wantData(t, fmt.Sprintf("%d bytes from %d on", n, at), p, []string{"grain"}, data)
			wantContents(t, fmt.Sprintf("behind %d bytes from %d on", n, at), p, []string{"grain"}, "grain")
		}
	}
	for _, at := range []int{5, 6, 65536, 65537, math.MaxInt} {
		wantData(t, fmt.Sprint("nothing at ", at), planOf(same(0), read(0, at, 0, 5)), []string{"grain"}, "")
		for _, n := range []int{1, 5, math.MaxInt - 4, math.MaxInt} {
			wantRefused(t, fmt.Sprintf("%d bytes from %d on", n, at), planOf(same(0), read(0, at, n, 5)), "grain")
		}
	}
	for _, n := range []int{-1, -5, math.MinInt} {
		wantRefused(t, fmt.Sprint("At ", n), planOf(same(0), read(0, n, 1, 5)), "grain")
		wantRefused(t, fmt.Sprintf("At %d, nothing", n), planOf(same(0), read(0, n, 0, 5)), "grain")
		wantRefused(t, fmt.Sprintf("%d bytes", n), planOf(same(0), read(0, 0, n, 5)), "grain")
		wantRefused(t, fmt.Sprintf("%d bytes from 5 on", n), planOf(same(0), read(0, 5, n, 5)), "grain")
		wantRefused(t, fmt.Sprint("Size ", n), planOf(same(0), read(0, 0, 0, n)), "grain")
	}
	for _, size := range []int{0, 4, 6, math.MaxInt} {
		wantRefused(t, fmt.Sprint("Size ", size), planOf(same(0), read(0, 0, 2, size)), "grain")
		wantRefused(t, fmt.Sprintf("Size %d, nothing", size), planOf(same(0), read(0, 0, 0, size)), "grain")
	}
	for _, file := range []int{1, -1, -2, math.MaxInt} {
		wantRefused(t, fmt.Sprint("file ", file), planOf([]api.Slot{slot(0, 0), slot(-1, -1)}, read(file, 0, 0, 0)), "", "")
	}
	wantData(t, "an empty file", planOf(same(0), read(0, 0, 0, 0)), []string{""}, "")
	wantData(t, "any bytes", planOf(same(0), read(0, 1, 3, 5)), []string{"\x00\xff\x80\x00é"[:5]}, "\xff\x80\x00")
	wantData(t, "what was laid there so far", planOf(same(0), read(0, 0, 5, 5), write(0, 0, "b", 5), read(0, 0, 5, 5), cut(0, 2, 2), read(0, 0, 2, 2)), []string{"grain"}, "grain", "", "brain", "", "br")
}

func TestWrite(t *testing.T) {
	for at := range 8 {
		for _, data := range []string{"x", "xy", "xyz123", "\x00", "\xff\x00"} {
			want := plainLay("grain", at, data)
			p := planOf(same(0), write(0, at, data, len(want)))
			wantContents(t, fmt.Sprintf("%q from %d on", data, at), p, []string{"grain"}, want)
			for _, off := range []int{-1, 1, -len(want)} {
				p.Steps[0].Effect.Size = len(want) + off
				wantRefused(t, fmt.Sprintf("%q from %d on, Size %d off", data, at, off), p, "grain")
			}
		}
	}
	full := strings.Repeat("f", 65536)
	wantContents(t, "all that fits", planOf(same(0), write(0, 0, full, 65536)), []string{""}, full)
	wantContents(t, "up to the limit", planOf(same(0), write(0, 65535, "x", 65536)), []string{"grain"}, "grain"+strings.Repeat("\x00", 65530)+"x")
	wantRefused(t, "one byte more", planOf(same(0), write(0, 0, full+"f", 65537)), "")
	wantRefused(t, "one place further", planOf(same(0), write(0, 65536, "x", 65537)), "grain")
	wantRefused(t, "one place further, in a full file", planOf(same(0), write(0, 65536, "x", 65536)), full)
	for _, at := range []int{0, 5, 6, 65535, 65536} {
		wantContents(t, fmt.Sprint("no bytes at ", at), planOf(same(0), write(0, at, "", 5)), []string{"grain"}, "grain")
		wantRefused(t, fmt.Sprintf("no bytes at %d, Size At", at), planOf(same(0), write(0, at, "", max(at, 6))), "grain")
	}
	for _, at := range []int{-1, -2, math.MinInt, 65537, math.MaxInt - 1, math.MaxInt} {
		for _, data := range []string{"", "x", "grain and more"} {
			for _, size := range []int{5, at, at + len(data), max(5, at+len(data))} {
				wantRefused(t, fmt.Sprintf("%q at %d, Size %d", data, at, size), planOf(same(0), write(0, at, data, size)), "grain")
			}
		}
	}
	for _, file := range []int{1, -1, -2, math.MinInt, math.MaxInt} {
		wantRefused(t, fmt.Sprint("file ", file), planOf([]api.Slot{slot(0, 0), slot(-1, -1)}, write(file, 0, "x", 1)), "", "")
		wantRefused(t, fmt.Sprintf("file %d, no bytes", file), planOf([]api.Slot{slot(0, 0), slot(-1, -1)}, write(file, 0, "", 0)), "", "")
	}
}

func TestCut(t *testing.T) {
	for n := range 9 {
		want := plainCut("grain", n)
		wantContents(t, fmt.Sprint("to ", n), planOf(same(0), cut(0, n, n)), []string{"grain"}, want)
		for _, size := range []int{n - 1, n + 1, -n - 1, math.MaxInt} {
			wantRefused(t, fmt.Sprintf("to %d, Size %d", n, size), planOf(same(0), cut(0, n, size)), "grain")
		}
	}
	wantContents(t, "to the limit", planOf(same(0), cut(0, 65536, 65536)), []string{"grain"}, "grain"+strings.Repeat("\x00", 65531))
	for _, n := range []int{-1, -2, math.MinInt, 65537, math.MaxInt} {
		wantRefused(t, fmt.Sprint("to ", n), planOf(same(0), cut(0, n, n)), "grain")
	}
	for _, file := range []int{1, -1, -2, math.MinInt, math.MaxInt} {
		wantRefused(t, fmt.Sprint("file ", file), planOf([]api.Slot{slot(0, 0), slot(-1, -1)}, cut(file, 0, 0)), "", "")
	}
	wantContents(t, "what was cut off is gone", planOf(same(0), cut(0, 0, 0), cut(0, 5, 5)), []string{"grain"}, "\x00\x00\x00\x00\x00")
	wantContents(t, "and does not come back by a write", planOf(same(0), cut(0, 1, 1), write(0, 4, "x", 5)), []string{"grain"}, "g\x00\x00\x00x")
	wantContents(t, "nor by a write to what was longer", planOf(same(0), write(0, 5, " and more", 14), cut(0, 2, 2), write(0, 6, "x", 7), cut(0, 9, 9)), []string{"grain"}, "gr\x00\x00\x00\x00x\x00\x00")
}

func TestGone(t *testing.T) {
	wantContents(t, "gone", planOf([]api.Slot{slot(3, -1)}, gone(3)), []string{"x"}, "")
	wantContents(t, "the other fields are not looked at", planOf([]api.Slot{slot(3, -1), slot(4, 4)}, api.Effect{Kind: api.EffGone, File: 3, Gone: 4, At: -1, N: -1, Data: "x", Size: 9}), []string{"x", "y"}, "", "y")
	wantRefused(t, "twice", planOf([]api.Slot{slot(3, -1)}, gone(3), gone(3)), "x")
	wantRefused(t, "and read", planOf([]api.Slot{slot(3, -1)}, gone(3), read(3, 0, 0, 0)), "x")
	wantRefused(t, "and written to", planOf([]api.Slot{slot(3, -1)}, gone(3), write(3, 0, "", 0)), "x")
	wantRefused(t, "and cut", planOf([]api.Slot{slot(3, -1)}, gone(3), cut(3, 0, 0)), "x")
	for _, file := range []int{0, 4, -1, -2, math.MinInt, math.MaxInt} {
		wantRefused(t, fmt.Sprint("file ", file), planOf([]api.Slot{slot(3, -1), slot(-1, -1)}, gone(file), gone(3)), "x", "")
	}
}

func TestOver(t *testing.T) {
	for _, file := range []int{9, 0, 4, -1, -2, math.MinInt, math.MaxInt} {
		wantContents(t, fmt.Sprint("by the file ", file), planOf([]api.Slot{slot(4, -1)}, over(file, 4)), []string{"x"}, "")
	}
	two := []api.Slot{slot(4, -1), slot(5, 5)}
	wantContents(t, "by a live file", planOf(two, over(5, 4)), []string{"x", "y"}, "", "y")
	wantContents(t, "the other fields are not looked at", planOf(two, api.Effect{Kind: api.EffOver, File: 5, Gone: 4, At: -1, N: -1, Data: "z", Size: -9}), []string{"x", "y"}, "", "y")
	wantRefused(t, "twice", planOf(two, over(5, 4), over(5, 4)), "x", "y")
	wantRefused(t, "and gone", planOf(two, over(5, 4), gone(4)), "x", "y")
	wantRefused(t, "the wrong one is gone", planOf([]api.Slot{slot(4, 4), slot(5, -1)}, over(5, 4)), "x", "y")
	for _, file := range []int{0, -1, -2, math.MinInt, math.MaxInt} {
		wantRefused(t, fmt.Sprint("Gone ", file), planOf([]api.Slot{slot(4, -1), slot(-1, -1)}, over(4, file), gone(4)), "x", "")
	}
	wantContents(t, "the number is free then", planOf([]api.Slot{slot(4, -1), slot(-1, 4)}, over(5, 4), made(4), write(4, 0, "z", 1)), []string{"x", ""}, "", "z")
}

func TestKindsThatAreNone(t *testing.T) {
	for _, kind := range []int{-1, -2, 7, 8, 100, math.MinInt, math.MaxInt} {
		p := planOf(same(0), api.Effect{Kind: kind})
		wantRefused(t, fmt.Sprint("the kind ", kind), p, "grain")
		wantRefused(t, fmt.Sprintf("the kind %d, behind another step", kind), planOf(same(0), cut(0, 1, 1), api.Effect{Kind: kind}), "grain")
		p.Steps[0].Result.Code = api.ErrOp
		wantContents(t, fmt.Sprintf("the kind %d, refused", kind), p, []string{"grain"}, "grain")
	}
}

// wild is effects none of which may be done to the file 0 alone, or which would change it.
func wild() []api.Effect {
	return []api.Effect{made(0), made(1), made(-1), read(0, 9, 9, 9), read(7, 0, 0, 0), write(0, 0, "x", 5), write(7, 0, "x", 1), cut(0, 2, 2), cut(0, -1, -1), gone(0), gone(7), over(1, 0), over(0, 7), {Kind: 7}, {Kind: -1}}
}

func TestStepsThatDoNothing(t *testing.T) {
	answer := api.Result{Data: "as it stands", N: -4, Names: []string{"a", "b"}, Kind: 99, Size: -1}
	for _, code := range []api.Errno{api.ErrArg, api.ErrAbsent, api.ErrContent, -1, 9999} {
		for i, e := range wild() {
			p := planOf(same(0), e)
			p.Steps[0].Result = answer
			p.Steps[0].Result.Code = code
			o := wantContents(t, fmt.Sprintf("the effect %d, the code %d", i, code), p, []string{"grain"}, "grain")
			if len(o.Results) != 1 || !sameResult(o.Results[0], p.Steps[0].Result) {
				t.Errorf("the effect %d, the code %d: %+v, want %+v", i, code, o.Results, p.Steps[0].Result)
			}
		}
	}
	for i, e := range wild() {
		e.Kind = api.EffNone
		p := planOf(same(0), e)
		p.Steps[0].Result = answer
		o := wantContents(t, fmt.Sprintf("the effect %d, of no kind", i), p, []string{"grain"}, "grain")
		if len(o.Results) != 1 || !sameResult(o.Results[0], answer) {
			t.Errorf("the effect %d, of no kind: %+v", i, o.Results)
		}
	}
}

// The result stands, whatever it says, but for what was read.
func TestResultsStand(t *testing.T) {
	answer := api.Result{Data: "stale", N: 77, Names: []string{"b", "a"}, Kind: api.IsDir, Size: -3}
	for _, f := range []struct {
		what   string
		effect api.Effect
		data   string
	}{
		{"made", made(1), "stale"},
		{"written to", write(0, 0, "x", 5), "stale"},
		{"no bytes", write(0, 0, "", 5), "stale"},
		{"cut", cut(0, 3, 3), "stale"},
		{"gone", gone(2), "stale"},
		{"renamed over", over(0, 2), "stale"},
		{"read", read(0, 1, 3, 5), "rai"},
		{"nothing was read", read(0, 1, 0, 5), ""},
		{"nothing was read, far off", read(0, math.MaxInt, 0, 5), ""},
	} {
		slots, contents := []api.Slot{slot(0, 0), slot(2, 2), slot(-1, -1)}, []string{"grain", "", ""}
		if f.effect.Kind == api.EffMade {
			slots[2].File = 1
		}
		if f.effect.Kind == api.EffGone || f.effect.Kind == api.EffOver {
			slots[1].File = -1
		}
		p := planOf(slots, f.effect)
		p.Steps[0].Result = answer
		o, e := Apply(p, contents)
		want := answer
		want.Data = f.data
		if e != api.OK || len(o.Results) != 1 || !sameResult(o.Results[0], want) {
			t.Errorf("%s: %+v, %d, want %+v", f.what, o.Results, e, want)
		}
	}
}

func TestStepsAreDoneInTheirOrder(t *testing.T) {
	wantContents(t, "the last write counts", planOf(same(0), write(0, 0, "aaa", 5), write(0, 1, "bbb", 5), write(0, 2, "c", 5)), []string{"grain"}, "abcbn")
	wantContents(t, "written, then cut", planOf(same(0), write(0, 0, "aaa", 5), cut(0, 2, 2)), []string{"grain"}, "aa")
	wantContents(t, "cut, then written", planOf(same(0), cut(0, 2, 2), write(0, 0, "aaa", 3)), []string{"grain"}, "aaa")
	wantRefused(t, "made behind what needs it", planOf([]api.Slot{slot(-1, 0)}, write(0, 0, "x", 1), made(0)), "")
	wantRefused(t, "made ahead of what must be gone", planOf([]api.Slot{slot(0, -1), slot(-1, 0)}, made(0), gone(0)), "x", "")
	wantRefused(t, "a fault in the last step alone", planOf(same(0), write(0, 0, "x", 5), read(0, 0, 1, 5), read(0, 5, 1, 5)), "grain")
	wantRefused(t, "a fault in the first step alone", planOf(same(0), read(0, 5, 1, 5), write(0, 0, "x", 5)), "grain")
}

// P16.4

func TestWhatMustFitAtTheEnd(t *testing.T) {
	for _, file := range []int{-2, -3, math.MinInt} {
		wantRefused(t, fmt.Sprint("File ", file), planOf([]api.Slot{slot(-1, file)}), "")
		wantRefused(t, fmt.Sprintf("File %d beside a file", file), planOf([]api.Slot{slot(0, 0), slot(-1, file)}), "x", "")
	}
	wantRefused(t, "a file that is not live", planOf([]api.Slot{slot(-1, 0)}), "")
	wantRefused(t, "another file", planOf([]api.Slot{slot(0, 1)}), "x")
	wantRefused(t, "a file that is gone", planOf(same(0), gone(0)), "x")
	wantRefused(t, "a file of two slots", planOf([]api.Slot{slot(0, 0), slot(-1, 0)}), "x", "")
	wantRefused(t, "a file of two slots, and another of none", planOf([]api.Slot{slot(0, 0), slot(1, 0)}), "x", "y")
	wantRefused(t, "a file of no slot", planOf([]api.Slot{slot(0, -1)}), "x")
	wantRefused(t, "an empty file of no slot", planOf([]api.Slot{slot(0, -1)}), "")
	wantRefused(t, "a file of no slot, beside others", planOf([]api.Slot{slot(0, 0), slot(1, -1), slot(2, 2)}), "x", "y", "z")
	wantRefused(t, "a file that was made, of no slot", planOf([]api.Slot{slot(-1, -1)}, made(0)), "")
	wantRefused(t, "a file that was made, without slots", planOf(nil, made(0)))
	wantContents(t, "made and gone", planOf(nil, made(0), write(0, 0, "x", 1), gone(0)), nil)
	wantContents(t, "each in another's place", planOf([]api.Slot{slot(0, 2), slot(1, 0), slot(-1, 1), slot(2, -1)}), []string{"a", "b", "", "c"}, "c", "a", "b", "")
}

func TestResultsAreInOrder(t *testing.T) {
	var p api.Plan
	for i := range 100 {
		p.Steps = append(p.Steps, api.Step{Result: api.Result{Code: api.Errno(i % 3), N: i}, Effect: api.Effect{Kind: api.EffNone}})
	}
	o := wantContents(t, "many steps", p, nil)
	for i, r := range o.Results {
		if r.N != i || r.Code != api.Errno(i%3) {
			t.Errorf("the result %d: %+v", i, r)
		}
	}
}

// P16.2 to P16.4, at random

func someText(r *rand.Rand) string {
	var text []byte
	for range r.Intn(5) {
		text = append(text, "ab\x00\xff"[r.Intn(4)])
	}
	return string(text)
}

// someEffect is one on the files as they are, which fits as a rule.
func someEffect(r *rand.Rand, live []plainFile) api.Effect {
	e := api.Effect{Kind: 1 + r.Intn(6), File: r.Intn(5), Gone: -1, At: r.Intn(7)}
	if len(live) > 0 && e.Kind != api.EffMade && r.Intn(15) > 0 {
		e.File = live[r.Intn(len(live))].number
	}
	text := ""
	if at := plainAt(live, e.File); at >= 0 {
		text = live[at].text
	}
	e.Size = len(text)
	switch e.Kind {
	case api.EffRead:
		e.N = r.Intn(max(len(text)-e.At, 0) + 1)
	case api.EffWrite:
		e.Data = someText(r)
		e.Size = len(plainLay(text, e.At, e.Data))
	case api.EffCut:
		e.N = r.Intn(9)
		e.Size, e.At = e.N, 0
	case api.EffOver:
		e.Gone, e.File = e.File, r.Intn(6)-1
	}
	return e
}

// spoilEffect changes one field of an effect; it may fit behind it, too.
func spoilEffect(r *rand.Rand, e *api.Effect) {
	n := []*int{&e.Kind, &e.File, &e.Gone, &e.At, &e.N, &e.Size}[r.Intn(6)]
	*n += []int{-1, 1, -2, 3, -*n, 65536}[r.Intn(6)]
}

// someSteps is steps over the live files, and the files behind those that fit.
func someSteps(r *rand.Rand, live []plainFile, count int, spoil bool) ([]api.Step, []plainFile) {
	var steps []api.Step
	for range count {
		s := api.Step{Effect: someEffect(r, live)}
		if r.Intn(8) == 0 {
			s.Effect.Kind = api.EffNone
			s.Result.Names = []string{someText(r)}
		}
		if spoil && r.Intn(6) == 0 {
			spoilEffect(r, &s.Effect)
		}
		if r.Intn(8) == 0 {
			s.Result.Code = api.ErrAbsent
		}
		s.Result.N = r.Intn(100)
		behind, _, ok := plainDo(live, s.Effect)
		if !ok && !spoil && s.Result.Code == api.OK && s.Effect.Kind != api.EffNone {
			continue
		}
		if ok && s.Result.Code == api.OK {
			live = behind
		}
		steps = append(steps, s)
	}
	return steps, live
}

// heldBy gives the slots the live files, each to one of them; there are slots enough.
func heldBy(r *rand.Rand, slots []api.Slot, live []plainFile) {
	for i, k := range r.Perm(len(slots)) {
		slots[k].File = -1
		if i < len(live) {
			slots[k].File = live[i].number
		}
	}
}

func someStart(r *rand.Rand) ([]api.Slot, []string) {
	var slots []api.Slot
	var contents []string
	for _, file := range r.Perm(5) {
		s, text := slot(-1, -1), ""
		if r.Intn(2) == 0 {
			s.Was, text = file, someText(r)
		}
		s.Object, s.Bucket = r.Int()-r.Int(), r.Int()-r.Int()
		slots, contents = append(slots, s), append(contents, text)
	}
	return slots, contents
}

// somePlan fits as a rule, and else is a little off.
func somePlan(r *rand.Rand) (api.Plan, []string) {
	slots, contents := someStart(r)
	live, _ := plainStart(slots, contents)
	steps, live := someSteps(r, live, r.Intn(12), r.Intn(4) == 0)
	heldBy(r, slots, live)
	switch r.Intn(20) {
	case 0:
		slots[r.Intn(5)].Was = r.Intn(8) - 3
	case 1:
		slots[r.Intn(5)].File = r.Intn(8) - 3
	case 2:
		contents[r.Intn(5)] += "x"
	case 3:
		contents = contents[:r.Intn(6)]
	}
	return api.Plan{Slots: slots, Steps: steps}, contents
}

func TestPlansAtRandom(t *testing.T) {
	r := rand.New(rand.NewSource(163))
	counts, refused := [api.EffOver + 1]int{}, 0
	for range 40000 {
		p, contents := somePlan(r)
		want, ok := plainApply(p, contents)
		o, e := Apply(p, contents)
		if (e == api.OK) != ok || !sameOutcome(o, want) || !ok && e != api.ErrContent {
			t.Fatalf("Apply(%+v, %q): %+v, %d, want %+v, %v", p, contents, o, e, want, ok)
		}
		if !ok {
			refused++
			continue
		}
		for _, s := range p.Steps {
			if s.Result.Code == api.OK {
				counts[max(s.Effect.Kind, 0)]++
			}
		}
	}
	for kind, count := range counts {
		if count < 2000 {
			t.Errorf("the effect %d came %d times: too few to say something", kind, count)
		}
	}
	if refused < 2000 || refused > 20000 {
		t.Errorf("%d of 40000 plans were refused: too many or too few to say something", refused)
	}
}

// P16.5

// byteBehind is the byte at a place of a file behind the steps, found from the last one on, and whether it is there.
func byteBehind(p api.Plan, contents []string, file, place int) (byte, bool) {
	size := -1 // what is known of the file's length behind the steps that are not looked at yet: nothing
	for i := len(p.Steps) - 1; i >= 0; i-- {
		e := p.Steps[i].Effect
		if p.Steps[i].Result.Code != api.OK || e.File != file {
			continue
		}
		if size == -1 && e.Kind != api.EffNone && e.Kind != api.EffOver {
			size = e.Size
			if place >= size {
				return 0, false
			}
		}
		switch {
		case e.Kind == api.EffWrite && e.At <= place && place < e.At+len(e.Data):
			return e.Data[place-e.At], true
		case e.Kind == api.EffMade, e.Kind == api.EffCut && e.N <= place:
			return 0, true
		}
	}
	for i, s := range p.Slots {
		if s.Was == file && place < len(contents[i]) {
			return contents[i][place], true
		}
	}
	return 0, size > place
}

// A byte is what the last write that covers its place laid there, or 0 since it was made or cut off, or what stood there.
func TestEachByte(t *testing.T) {
	r := rand.New(rand.NewSource(164))
	bytes := 0
	for range 5000 {
		slots, contents := someStart(r)
		live, _ := plainStart(slots, contents)
		steps, live := someSteps(r, live, 12, false)
		heldBy(r, slots, live)
		p := api.Plan{Slots: slots, Steps: steps}
		o, e := Apply(p, contents)
		if e != api.OK {
			t.Fatalf("Apply(%+v, %q): %d", p, contents, e)
		}
		for i, s := range slots {
			for place := range 20 {
				if s.File == -1 {
					continue
				}
				want, there := byteBehind(p, contents, s.File, place)
				if there != (place < len(o.Contents[i])) || there && o.Contents[i][place] != want {
					t.Fatalf("Apply(%+v, %q): the file %d has %q, but %d, %v at %d", p, contents, s.File, o.Contents[i], want, there, place)
				}
				bytes++
			}
		}
	}
	if bytes < 50000 {
		t.Errorf("%d bytes: too few to say something", bytes)
	}
}

// What is done to one file changes no other: the steps of one file alone come to the same content of it.
func TestFilesAreApart(t *testing.T) {
	r := rand.New(rand.NewSource(165))
	for range 5000 {
		slots, contents := someStart(r)
		live, _ := plainStart(slots, contents)
		steps, live := someSteps(r, live, 12, false)
		heldBy(r, slots, live)
		all, e := Apply(api.Plan{Slots: slots, Steps: steps}, contents)
		if e != api.OK {
			t.Fatalf("Apply: %d", e)
		}
		for i, s := range slots {
			if s.File == -1 {
				continue
			}
			alone, text := []api.Slot{slot(-1, s.File)}, ""
			if k := slices.IndexFunc(slots, func(other api.Slot) bool { return other.Was == s.File }); k >= 0 {
				alone[0].Was, text = s.File, contents[k]
			}
			own := slices.DeleteFunc(slices.Clone(steps), func(x api.Step) bool {
				return x.Effect.Kind == api.EffOver && x.Effect.Gone != s.File || x.Effect.Kind != api.EffOver && x.Effect.File != s.File
			})
			wantContents(t, fmt.Sprint("the file ", s.File), api.Plan{Slots: alone, Steps: own}, []string{text}, all.Contents[i])
		}
	}
}

// The steps in two parts come to what all of them come to at once.
func TestTwoParts(t *testing.T) {
	r := rand.New(rand.NewSource(166))
	for range 5000 {
		slots, contents := someStart(r)
		live, _ := plainStart(slots, contents)
		one, between := someSteps(r, live, r.Intn(8), false)
		two, behind := someSteps(r, between, r.Intn(8), false)
		first, second := slices.Clone(slots), make([]api.Slot, len(slots))
		heldBy(r, first, between)
		heldBy(r, slots, behind)
		for i := range slots {
			second[i] = slot(first[i].File, slots[i].File)
		}
		whole, e := Apply(api.Plan{Slots: slots, Steps: slices.Concat(one, two)}, contents)
		a, f := Apply(api.Plan{Slots: first, Steps: one}, contents)
		b, g := Apply(api.Plan{Slots: second, Steps: two}, a.Contents)
		if e != api.OK || f != api.OK || g != api.OK {
			t.Fatalf("Apply: %d, %d, %d", e, f, g)
		}
		if parts := (api.Outcome{Results: slices.Concat(a.Results, b.Results), Contents: b.Contents}); !sameOutcome(whole, parts) {
			t.Fatalf("%+v and %+v of %q: %+v at once, %+v in parts", one, two, contents, whole, parts)
		}
	}
}

// Over the plans of the layer below.

// somePath is one of a few, so that operations meet.
func somePath(r *rand.Rand) string { return []string{"/a", "/b", "/c", "/d", "/e/a"}[r.Intn(5)] }

func someOps(r *rand.Rand, c api.Config) []api.Op {
	var ops []api.Op
	for range r.Intn(c.Slots + 1) {
		op := api.Op{Kind: 1 + r.Intn(10), Path: somePath(r), To: somePath(r), At: r.Intn(c.MaxFile), N: r.Intn(c.MaxFile + 5), Data: someText(r)}
		if r.Intn(3) == 0 {
			op.Kind = []int{api.OpCreate, api.OpWrite, api.OpRead}[r.Intn(3)]
		}
		if r.Intn(10) == 0 {
			op.Kind, op.Path = api.OpMkdir, "/e"
		}
		ops = append(ops, op)
	}
	return ops
}

// plainFiles does a batch to texts by their paths; which operations are refused is told by the plan.
func plainFiles(files map[string]string, ops []api.Op, steps []api.Step) []string {
	var data []string
	for i, op := range ops {
		text, isFile := files[op.Path]
		piece := ""
		switch {
		case steps[i].Result.Code != api.OK:
		case op.Kind == api.OpCreate:
			files[op.Path] = ""
		case op.Kind == api.OpRead:
			piece = text[min(op.At, len(text)):min(op.At+op.N, len(text))]
		case op.Kind == api.OpWrite:
			files[op.Path] = plainLay(text, op.At, op.Data)
		case op.Kind == api.OpCut:
			files[op.Path] = plainCut(text, op.N)
		case op.Kind == api.OpRemove:
			delete(files, op.Path)
		case op.Kind == api.OpRename && isFile:
			delete(files, op.Path)
			files[op.To] = text
		case op.Kind == api.OpRename:
			moveAll(files, op.Path, op.To)
		}
		data = append(data, piece)
	}
	return data
}

// moveAll is the Rename of a directory.
func moveAll(files map[string]string, from, to string) {
	moved := map[string]string{}
	for path, text := range files {
		if rest, inside := strings.CutPrefix(path, from+"/"); inside {
			delete(files, path)
			moved[to+"/"+rest] = text
		}
	}
	for path, text := range moved {
		files[path] = text
	}
}

// pathsOf is the path of each file by its number.
func pathsOf(s api.TreeState) map[int]string {
	dirs, paths := map[int]api.Node{}, map[int]string{}
	for _, n := range s.Nodes {
		if n.Kind == api.IsDir {
			dirs[n.Number] = n
			continue
		}
		path := "/" + n.Name
		for up := n.Parent; up != 0; up = dirs[up].Parent {
			path = "/" + dirs[up].Name + path
		}
		paths[n.Number] = path
	}
	return paths
}

func TestOverPlans(t *testing.T) {
	r := rand.New(rand.NewSource(167))
	reads := 0
	for range 300 {
		c := api.Config{Slots: 1 + r.Intn(6), Files: 1 + r.Intn(5), Dirs: 2, MaxFile: 1 + r.Intn(40), Least: 16, Page: 64}
		files, _ := tree.New(c.Files, c.Dirs, c.MaxFile)
		table, _ := pool.New(c.Files, c.Slots)
		objects, plain := make([]string, table.Count()), map[string]string{}
		for range 40 {
			ops := someOps(r, c)
			p, nextFiles, nextTable, e := plan.Make(c, files, table, ops)
			if e != api.OK {
				t.Fatalf("plan.Make: %d", e)
			}
			var contents []string
			for _, s := range p.Slots {
				contents = append(contents, objects[s.Object])
			}
			o, e := Apply(p, contents)
			if want := plainFiles(plain, ops, p.Steps); e != api.OK || !slices.Equal(dataOf(o), want) {
				t.Fatalf("%+v of %q: %+v, %d, but %q is read", p, contents, o, e, want)
			}
			for i, s := range p.Slots {
				objects[s.Object] = o.Contents[i]
				reads += len(strings.Join(dataOf(o), ""))
			}
			files, table = nextFiles, nextTable
			wantObjects(t, files, table, objects, plain)
		}
	}
	if reads < 1000 {
		t.Errorf("%d bytes were read: too few to say something", reads)
	}
}

func wantObjects(t *testing.T, files *tree.Tree, table *pool.Pool, objects []string, plain map[string]string) {
	t.Helper()
	paths := pathsOf(files.State())
	if len(paths) != len(plain) {
		t.Fatalf("the files %v, want %q", paths, plain)
	}
	for i, object := range table.State().Objects {
		want := ""
		if object.Owner != -1 {
			want = plain[paths[object.Owner]]
		}
		if objects[i] != want {
			t.Fatalf("the object %d of the file %d, %s: %q, want %q", i, object.Owner, paths[object.Owner], objects[i], want)
		}
	}
}

// The greatest batch: as many slots as may be, each file as long as may be.
func TestTheGreatest(t *testing.T) {
	var p api.Plan
	var contents, want []string
	for i := range api.MaxSlots {
		text := strings.Repeat(string(rune('0'+i)), api.MaxFile)
		p.Slots = append(p.Slots, slot(i, i))
		p.Steps = append(p.Steps, api.Step{Effect: write(i, api.MaxFile-1, "!", api.MaxFile)})
		contents, want = append(contents, text), append(want, text[:api.MaxFile-1]+"!")
	}
	wantContents(t, "all of them", p, contents, want...)
	for i := range p.Steps {
		p.Steps[i].Effect = read(i, 0, api.MaxFile, api.MaxFile)
	}
	wantData(t, "all of them", p, contents, contents...)
}

// More steps than a batch has, over one file that grows by a byte each.
func TestManySteps(t *testing.T) {
	p := api.Plan{Slots: []api.Slot{slot(-1, 0)}, Steps: []api.Step{{Effect: made(0)}}}
	for i := range api.MaxFile {
		p.Steps = append(p.Steps, api.Step{Effect: write(0, i, "x", i+1)}, api.Step{Effect: read(0, i, 1, i+1)})
	}
	o := wantContents(t, "many steps", p, []string{""}, strings.Repeat("x", api.MaxFile))
	if got := strings.Join(dataOf(o), ""); got != strings.Repeat("x", api.MaxFile) {
		t.Errorf("%d bytes were read", len(got))
	}
}
