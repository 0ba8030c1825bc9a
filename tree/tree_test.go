package tree

import (
	"fmt"
	"maps"
	"math"
	"math/rand"
	"slices"
	"strings"
	"sync"
	"testing"

	"casket/api"
)

var none = api.Effect{File: -1, Gone: -1}

func mkdir(path string) api.Op  { return api.Op{Kind: 1, Path: path} }
func create(path string) api.Op { return api.Op{Kind: 2, Path: path} }
func remove(path string) api.Op { return api.Op{Kind: 7, Path: path} }
func rmdir(path string) api.Op  { return api.Op{Kind: 8, Path: path} }
func list(path string) api.Op   { return api.Op{Kind: 9, Path: path} }
func stat(path string) api.Op   { return api.Op{Kind: 10, Path: path} }

func cut(path string, n int) api.Op      { return api.Op{Kind: 5, Path: path, N: n} }
func rename(path, to string) api.Op      { return api.Op{Kind: 6, Path: path, To: to} }
func read(path string, at, n int) api.Op { return api.Op{Kind: 3, Path: path, At: at, N: n} }

func write(path string, at int, data string) api.Op {
	return api.Op{Kind: 4, Path: path, At: at, Data: data}
}

func effect(kind, file, gone, at, n int, data string, size int) api.Effect {
	return api.Effect{Kind: kind, File: file, Gone: gone, At: at, N: n, Data: data, Size: size}
}

func dirNode(number, parent int, name string) api.Node {
	return api.Node{Kind: 1, Number: number, Parent: parent, Name: name}
}

func fileNode(number, parent int, name string, size int) api.Node {
	return api.Node{Kind: 2, Number: number, Parent: parent, Name: name, Size: size}
}

func mustNew(t *testing.T, files, dirs, most int) *Tree {
	t.Helper()
	x, e := New(files, dirs, most)
	if x == nil || e != api.OK {
		t.Fatalf("New(%d, %d, %d): %v, %d", files, dirs, most, x, e)
	}
	return x
}

func mustLoad(t *testing.T, s api.TreeState, most int) *Tree {
	t.Helper()
	x, e := Load(s, most)
	if x == nil || e != api.OK {
		t.Fatalf("Load(%v, %d): %v, %d", s, most, x, e)
	}
	return x
}

func mustDo(t *testing.T, x *Tree, ops ...api.Op) {
	t.Helper()
	for _, op := range ops {
		if r, _ := x.Do(op); r.Code != api.OK {
			t.Fatalf("Do(%v): %d", op, r.Code)
		}
	}
}

func sameResult(a, b api.Result) bool {
	return a.Code == b.Code && a.Data == b.Data && a.N == b.N && slices.Equal(a.Names, b.Names) && a.Kind == b.Kind && a.Size == b.Size
}

func sameState(a, b api.TreeState) bool {
	return a.Files == b.Files && a.Dirs == b.Dirs && slices.Equal(a.Nodes, b.Nodes)
}

func wantState(t *testing.T, x *Tree, want api.TreeState) {
	t.Helper()
	if s := x.State(); !sameState(s, want) {
		t.Errorf("State: %v, want %v", s, want)
	}
}

func wantNew(t *testing.T, files, dirs, most int, fault api.Errno) {
	t.Helper()
	if x, e := New(files, dirs, most); e != fault || (x == nil) != (fault != api.OK) {
		t.Errorf("New(%d, %d, %d): %v, %d, want %d", files, dirs, most, x, e, fault)
	}
}

func wantLoad(t *testing.T, what string, s api.TreeState, most int, fault api.Errno) {
	t.Helper()
	x, e := Load(s, most)
	if e != fault || (x == nil) != (fault != api.OK) {
		t.Errorf("%s: Load: %v, %d, want %d", what, x, e, fault)
	}
	if x != nil {
		wantState(t, x, s)
	}
}

// want does an operation that is done.
func want(t *testing.T, x *Tree, op api.Op, r api.Result, f api.Effect) {
	t.Helper()
	if a, b := x.Do(op); !sameResult(a, r) || b != f {
		t.Errorf("Do(%v): %v, %v, want %v, %v", op, a, b, r, f)
	}
}

// wantNo does operations that are refused.
func wantNo(t *testing.T, x *Tree, fault api.Errno, ops ...api.Op) {
	t.Helper()
	for _, op := range ops {
		was := x.State()
		want(t, x, op, api.Result{Code: fault}, none)
		wantState(t, x, was)
	}
}

// What follows does the document's words once more, with nothing but a table of whole paths, against which the program is
// held. The path of the root is "" there, so that every other one is its parent's, "/" and a name.

type plainNode struct{ kind, number, size int }

type plainTree struct {
	files, dirs, most int
	at                map[string]plainNode
}

func newPlain(files, dirs, most int) *plainTree {
	return &plainTree{files, dirs, most, map[string]plainNode{"": {kind: 1}}}
}

func (p *plainTree) copy() *plainTree {
	return &plainTree{p.files, p.dirs, p.most, maps.Clone(p.at)}
}

func plainParse(text string) (string, api.Errno) {
	if len(text) == 0 || len(text) > 1024 || text[0] != '/' || len(text) > 1 && text[len(text)-1] == '/' {
		return "", 110
	}
	if text == "/" {
		return "", 0
	}
	names := strings.Split(text, "/")[1:]
	for _, n := range names {
		if n == "" || n == "." || n == ".." || len(n) > 32 || strings.ContainsFunc(n, func(r rune) bool { return r < 33 || r > 126 }) {
			return "", 111
		}
	}
	if len(names) > 16 {
		return "", 112
	}
	return text, 0
}

func plainParent(path string) (string, string) {
	i := strings.LastIndex(path, "/")
	return path[:i], path[i+1:]
}

// find tells the error of finding.
func (p *plainTree) find(path string) api.Errno {
	for i := 1; i < len(path); i++ {
		if path[i] != '/' {
			continue
		}
		if n, ok := p.at[path[:i]]; !ok {
			return 120
		} else if n.kind == 2 {
			return 122
		}
	}
	return 0
}

func (p *plainTree) inside(path string) []string {
	var names []string
	for q := range p.at {
		if q == "" {
			continue
		}
		if parent, name := plainParent(q); parent == path {
			names = append(names, name)
		}
	}
	slices.Sort(names)
	return names
}

// lowest is the lowest free number of a kind, or -1.
func (p *plainTree) lowest(kind int) int {
	first, end := 0, p.files
	if kind == 1 {
		first, end = 1, p.dirs+1
	}
	for n := first; n < end; n++ {
		taken := false
		for _, x := range p.at {
			taken = taken || x.kind == kind && x.number == n
		}
		if !taken {
			return n
		}
	}
	return -1
}

func (p *plainTree) state() api.TreeState {
	s := api.TreeState{Files: p.files, Dirs: p.dirs}
	for q, n := range p.at {
		if q == "" {
			continue
		}
		parent, name := plainParent(q)
		s.Nodes = append(s.Nodes, api.Node{Kind: n.kind, Number: n.number, Parent: p.at[parent].number, Name: name, Size: n.size})
	}
	slices.SortFunc(s.Nodes, func(a, b api.Node) int { return (a.Kind-b.Kind)*1000000 + a.Number - b.Number })
	return s
}

func plainNo(e api.Errno) (api.Result, api.Effect) { return api.Result{Code: e}, none }

func (p *plainTree) do(op api.Op) (api.Result, api.Effect) {
	if op.Kind < 1 || op.Kind > 10 {
		return plainNo(127)
	}
	path, e := plainParse(op.Path)
	if e != 0 {
		return plainNo(e)
	}
	to := ""
	if op.Kind == 6 {
		if to, e = plainParse(op.To); e != 0 {
			return plainNo(e)
		}
	}
	if (op.Kind == 3 || op.Kind == 4) && op.At < 0 || (op.Kind == 3 || op.Kind == 5) && op.N < 0 {
		return plainNo(1)
	}
	switch op.Kind {
	case 1, 2:
		return p.make(op.Kind, path)
	case 3, 4, 5:
		return p.content(op, path)
	case 6:
		return p.rename(path, to)
	case 7, 8:
		return p.drop(op.Kind, path)
	}
	return p.look(op.Kind, path)
}

func (p *plainTree) make(kind int, path string) (api.Result, api.Effect) {
	if path == "" {
		return plainNo(121)
	}
	if e := p.find(path); e != 0 {
		return plainNo(e)
	}
	if _, ok := p.at[path]; ok {
		return plainNo(121)
	}
	n := p.lowest(kind)
	if n < 0 {
		return plainNo(125)
	}
	p.at[path] = plainNode{kind: kind, number: n}
	if kind == 1 {
		return api.Result{}, none
	}
	return api.Result{}, api.Effect{Kind: 1, File: n, Gone: -1}
}

func (p *plainTree) content(op api.Op, path string) (api.Result, api.Effect) {
	if path == "" {
		return plainNo(123)
	}
	if e := p.find(path); e != 0 {
		return plainNo(e)
	}
	x, ok := p.at[path]
	if !ok {
		return plainNo(120)
	}
	if x.kind == 1 {
		return plainNo(123)
	}
	f := api.Effect{Kind: op.Kind - 1, File: x.number, Gone: -1} // the effects have their operations' order
	r := api.Result{}
	switch op.Kind {
	case 3:
		for f.N < op.N && op.At < x.size && f.N < x.size-op.At {
			f.N++
		}
		f.At, r.N = op.At, f.N
	case 4:
		if op.At > p.most || op.At+len(op.Data) > p.most {
			return plainNo(3)
		}
		f.At, f.Data, r.N = op.At, op.Data, len(op.Data)
		if len(op.Data) > 0 && op.At+len(op.Data) > x.size {
			x.size = op.At + len(op.Data)
		}
	case 5:
		if op.N > p.most {
			return plainNo(3)
		}
		f.N, x.size = op.N, op.N
	}
	f.Size = x.size
	p.at[path] = x
	return r, f
}

func (p *plainTree) rename(path, to string) (api.Result, api.Effect) {
	if e := p.find(path); e != 0 {
		return plainNo(e)
	}
	x, ok := p.at[path]
	if !ok {
		return plainNo(120)
	}
	if path == to {
		return api.Result{}, none
	}
	if x.kind == 1 && strings.HasPrefix(to, path+"/") {
		return plainNo(126)
	}
	if to == "" {
		return plainNo(121)
	}
	if e := p.find(to); e != 0 {
		return plainNo(e)
	}
	y, over := p.at[to]
	if over && y.kind == 1 {
		return plainNo(121)
	}
	if over && x.kind == 1 {
		return plainNo(122)
	}
	next := map[string]plainNode{}
	for q, n := range p.at {
		switch {
		case q == to:
		case q == path || strings.HasPrefix(q, path+"/"):
			next[to+q[len(path):]] = n
		default:
			next[q] = n
		}
	}
	for q := range next {
		if strings.Count(q, "/") > 16 {
			return plainNo(112)
		}
	}
	p.at = next
	if !over {
		return api.Result{}, none
	}
	return api.Result{}, api.Effect{Kind: 6, File: x.number, Gone: y.number, Size: x.size}
}

func (p *plainTree) drop(kind int, path string) (api.Result, api.Effect) {
	if path == "" && kind == 7 {
		return plainNo(123)
	}
	if path == "" {
		return plainNo(1)
	}
	if e := p.find(path); e != 0 {
		return plainNo(e)
	}
	x, ok := p.at[path]
	switch {
	case !ok:
		return plainNo(120)
	case kind == 7 && x.kind == 1:
		return plainNo(123)
	case kind == 8 && x.kind == 2:
		return plainNo(122)
	case kind == 8 && len(p.inside(path)) > 0:
		return plainNo(124)
	}
	delete(p.at, path)
	if kind == 8 {
		return api.Result{}, none
	}
	return api.Result{}, api.Effect{Kind: 5, File: x.number, Gone: -1}
}

func (p *plainTree) look(kind int, path string) (api.Result, api.Effect) {
	if e := p.find(path); e != 0 {
		return plainNo(e)
	}
	x, ok := p.at[path]
	switch {
	case !ok:
		return plainNo(120)
	case kind == 9 && x.kind == 2:
		return plainNo(122)
	case kind == 9:
		return api.Result{Names: p.inside(path)}, none
	}
	return api.Result{Kind: x.kind, Size: x.size}, none
}

// holdStep does an operation in both, and holds them against one another.
func holdStep(t *testing.T, x *Tree, p *plainTree, op api.Op) api.Errno {
	t.Helper()
	r, f := p.do(op)
	want(t, x, op, r, f)
	wantState(t, x, p.state())
	if t.Failed() {
		t.FailNow()
	}
	return r.Code
}

// The operations of the random runs: few names, so that most paths meet something; now and then a wrong one.

func somePath(r *rand.Rand, p *plainTree) string {
	switch r.Intn(20) {
	case 0:
		return "/"
	case 1:
		return []string{"", "a", "/a/", "/a//b", "/..", "/a b", "//", strings.Repeat("/a", 17), "/" + strings.Repeat("n", 33)}[r.Intn(9)]
	case 2:
		return strings.Repeat("/"+string(rune('a'+r.Intn(2))), 1+r.Intn(16))
	case 3, 4, 5, 6, 7, 8, 9, 10, 11:
		paths := slices.Sorted(maps.Keys(p.at))
		path := paths[r.Intn(len(paths))]
		if path == "" || r.Intn(2) == 0 {
			path += "/" + string(rune('a'+r.Intn(4)))
		}
		return path
	}
	path := ""
	for range 1 + r.Intn(4) {
		path += "/" + string(rune('a'+r.Intn(3)))
	}
	return path
}

func someNumber(r *rand.Rand, most int) int {
	switch r.Intn(24) {
	case 0:
		return -1
	case 1:
		return math.MinInt
	case 2:
		return math.MaxInt
	case 3:
		return most + 1
	case 4, 5:
		return most
	}
	return r.Intn(most + 1)
}

func someOp(r *rand.Rand, p *plainTree) api.Op {
	kind := []int{1, 1, 1, 1, 2, 2, 2, 3, 4, 4, 5, 6, 6, 6, 7, 8, 9, 10, r.Intn(14) - 1}[r.Intn(19)]
	// All fields are filled, whether the kind looks at them or not.
	data := strings.Repeat("x", min(r.Intn(6), r.Intn(p.most+3)))
	return api.Op{Kind: kind, Path: somePath(r, p), To: somePath(r, p), At: someNumber(r, p.most), N: someNumber(r, p.most), Data: data}
}

// P12.1

func TestNewsLimits(t *testing.T) {
	for _, c := range [][3]int{{1, 0, 0}, {65536, 0, 0}, {1, 4096, 0}, {1, 0, 65536}, {65536, 4096, 65536}, {7, 8, 9}} {
		wantNew(t, c[0], c[1], c[2], api.OK)
		wantState(t, mustNew(t, c[0], c[1], c[2]), api.TreeState{Files: c[0], Dirs: c[1]})
	}
	for _, far := range []int{-1, math.MinInt, math.MaxInt} {
		wantNew(t, far, 0, 0, api.ErrArg)
		wantNew(t, 1, far, 0, api.ErrArg)
		wantNew(t, 1, 0, far, api.ErrArg)
		wantNew(t, far, far, far, api.ErrArg)
	}
	wantNew(t, 0, 0, 0, api.ErrArg)
	wantNew(t, 65537, 0, 0, api.ErrArg)
	wantNew(t, 1, 4097, 0, api.ErrArg)
	wantNew(t, 1, 0, 65537, api.ErrArg)
}

func TestStateIsByKindsAndNumbers(t *testing.T) {
	x := mustNew(t, 9, 8, 7)
	mustDo(t, x, create("/z"), mkdir("/y"), create("/y/x"), mkdir("/y/w"), create("/y/w/v"), write("/y/x", 2, "ab"))
	wantState(t, x, api.TreeState{Files: 9, Dirs: 8, Nodes: []api.Node{
		dirNode(1, 0, "y"), dirNode(2, 1, "w"), fileNode(0, 0, "z", 0), fileNode(1, 1, "x", 4), fileNode(2, 2, "v", 0),
	}})
	mustDo(t, x, rename("/y/w", "/u"), remove("/z"), rename("/u/v", "/z"))
	wantState(t, x, api.TreeState{Files: 9, Dirs: 8, Nodes: []api.Node{
		dirNode(1, 0, "y"), dirNode(2, 0, "u"), fileNode(1, 1, "x", 4), fileNode(2, 0, "z", 0),
	}})
}

func TestStateIsNewMemory(t *testing.T) {
	x := mustNew(t, 3, 2, 1)
	mustDo(t, x, mkdir("/a"), create("/a/b"), create("/c"))
	nodes := []api.Node{dirNode(1, 0, "a"), fileNode(0, 1, "b", 0), fileNode(1, 0, "c", 0)}
	for range 2 {
		l := x.State().Nodes
		l = l[:cap(l)]
		for i := range l {
			l[i] = fileNode(-5, -5, "spoilt", -5)
		}
		wantState(t, x, api.TreeState{Files: 3, Dirs: 2, Nodes: nodes})
		want(t, x, list("/a"), api.Result{Names: []string{"b"}}, none)
	}
}

func TestTreesThatAreNotThere(t *testing.T) {
	for _, x := range []*Tree{nil, {}, new(Tree)} {
		if s := x.State(); !sameState(s, api.TreeState{}) {
			t.Errorf("State: %v", s)
		}
		if y := x.Copy(); y != nil {
			t.Errorf("Copy: %v", y)
		}
		for kind := -1; kind <= 11; kind++ {
			want(t, x, api.Op{Kind: kind, Path: "/a", To: "/b"}, api.Result{Code: api.ErrNil}, none)
			want(t, x, api.Op{Kind: kind, At: -1, N: -1}, api.Result{Code: api.ErrNil}, none)
		}
	}
}

// P12.2

func goodState() api.TreeState {
	return api.TreeState{Files: 3, Dirs: 3, Nodes: []api.Node{
		dirNode(1, 3, "b"), dirNode(3, 0, "a"), fileNode(0, 1, "b", 100), fileNode(2, 0, "z", 0),
	}}
}

func TestLoadTakesStates(t *testing.T) {
	wantLoad(t, "good", goodState(), 100, api.OK)
	wantLoad(t, "greater most", goodState(), 65536, api.OK)
	wantLoad(t, "no nodes", api.TreeState{Files: 1}, 0, api.OK)
	wantLoad(t, "an empty list", api.TreeState{Files: 1, Nodes: []api.Node{}}, 0, api.OK)
	wantLoad(t, "the greatest room", api.TreeState{Files: 65536, Dirs: 4096, Nodes: []api.Node{dirNode(4096, 0, "d"), fileNode(65535, 4096, "f", 65536)}}, 65536, api.OK)
	wantLoad(t, "one name in two directories", api.TreeState{Files: 2, Dirs: 1, Nodes: []api.Node{dirNode(1, 0, "a"), fileNode(0, 0, "b", 0), fileNode(1, 1, "b", 0)}}, 0, api.OK)
	x := mustLoad(t, goodState(), 100)
	want(t, x, stat("/a/b/b"), api.Result{Kind: 2, Size: 100}, none)
	want(t, x, list("/"), api.Result{Names: []string{"a", "z"}}, none)
	want(t, x, create("/y"), api.Result{}, api.Effect{Kind: 1, File: 1, Gone: -1})
	want(t, x, mkdir("/x"), api.Result{}, none)
	wantNo(t, x, api.ErrRoom, create("/w"), mkdir("/w"))
	wantNo(t, x, api.ErrBig, cut("/y", 101))
	wantState(t, x, api.TreeState{Files: 3, Dirs: 3, Nodes: []api.Node{
		dirNode(1, 3, "b"), dirNode(2, 0, "x"), dirNode(3, 0, "a"), fileNode(0, 1, "b", 100), fileNode(1, 0, "y", 0), fileNode(2, 0, "z", 0),
	}})
}

func TestLoadsFaults(t *testing.T) {
	for _, most := range []int{-1, 65537, math.MinInt, math.MaxInt} {
		wantLoad(t, "most", goodState(), most, api.ErrArg)
		wantLoad(t, "most ahead of the rest", api.TreeState{}, most, api.ErrArg)
	}
	wantLoad(t, "a file longer than most", goodState(), 99, api.ErrTree)
	for _, n := range []int{-1, 0, 65537, math.MinInt, math.MaxInt} {
		wantLoad(t, "files", api.TreeState{Files: n}, 5, api.ErrTree)
	}
	for _, n := range []int{-1, 4097, math.MinInt, math.MaxInt} {
		wantLoad(t, "dirs", api.TreeState{Files: 1, Dirs: n}, 5, api.ErrTree)
	}
	wantLoad(t, "zero", api.TreeState{}, 5, api.ErrTree)
	for what, nodes := range map[string][]api.Node{
		"kind 0":                         {{Kind: 0, Number: 1, Name: "a"}},
		"kind 3":                         {{Kind: 3, Number: 1, Name: "a"}},
		"kind -1":                        {{Kind: -1, Number: 1, Name: "a"}},
		"the root":                       {dirNode(0, 0, "a")},
		"directory -1":                   {dirNode(-1, 0, "a")},
		"directory 3 of 2":               {dirNode(3, 0, "a")},
		"directory, far":                 {dirNode(math.MaxInt, 0, "a")},
		"file -1":                        {fileNode(-1, 0, "a", 0)},
		"file 2 of 2":                    {fileNode(2, 0, "a", 0)},
		"file, far":                      {fileNode(math.MaxInt, 0, "a", 0)},
		"file, far below":                {fileNode(math.MinInt, 0, "a", 0)},
		"a parent that is not there":     {fileNode(0, 1, "a", 0)},
		"a parent below 0":               {fileNode(0, -1, "a", 0)},
		"a parent past the room":         {fileNode(0, 3, "a", 0)},
		"a parent far off":               {fileNode(0, math.MaxInt, "a", 0)},
		"a parent far below":             {dirNode(1, math.MinInt, "a")},
		"a parent that is a file's":      {fileNode(0, 0, "a", 0), fileNode(1, 1, "b", 0)},
		"a directory's parent is not":    {dirNode(1, 2, "a")},
		"no name":                        {fileNode(0, 0, "", 0)},
		"a name with a slash":            {fileNode(0, 0, "a/b", 0)},
		"two dots":                       {dirNode(1, 0, "..")},
		"a long name":                    {dirNode(1, 0, strings.Repeat("n", 33))},
		"a size below 0":                 {fileNode(0, 0, "a", -1)},
		"a size past most":               {fileNode(0, 0, "a", 6)},
		"a directory's size":             {{Kind: 1, Number: 1, Name: "a", Size: 1}},
		"a directory's size, below":      {{Kind: 1, Number: 1, Name: "a", Size: -1}},
		"a number twice, directories":    {dirNode(1, 0, "a"), dirNode(1, 0, "b")},
		"a number twice, files":          {fileNode(1, 0, "a", 0), fileNode(1, 0, "b", 0)},
		"a name twice, directories":      {dirNode(1, 0, "a"), dirNode(2, 0, "a")},
		"a name twice, files":            {fileNode(0, 0, "a", 0), fileNode(1, 0, "a", 0)},
		"a name twice, one of each":      {dirNode(1, 0, "a"), fileNode(0, 0, "a", 0)},
		"a name twice, below":            {dirNode(1, 0, "a"), dirNode(2, 1, "a"), fileNode(0, 1, "a", 0)},
		"falling directories":            {dirNode(2, 0, "a"), dirNode(1, 0, "b")},
		"falling files":                  {fileNode(1, 0, "a", 0), fileNode(0, 0, "b", 0)},
		"a file ahead of a directory":    {fileNode(0, 0, "a", 0), dirNode(1, 0, "b")},
		"in itself":                      {dirNode(1, 1, "a")},
		"in one another":                 {dirNode(1, 2, "a"), dirNode(2, 1, "b")},
		"in one another, a file in them": {dirNode(1, 2, "a"), dirNode(2, 1, "b"), fileNode(0, 2, "c", 0)},
		"the last one is wrong":          {dirNode(1, 0, "a"), dirNode(2, 1, "a"), fileNode(0, 1, "b", 0), fileNode(1, 2, "b", 6)},
	} {
		wantLoad(t, what, api.TreeState{Files: 2, Dirs: 2, Nodes: nodes}, 5, api.ErrTree)
	}
	wantLoad(t, "directories where none may be", api.TreeState{Files: 2, Nodes: []api.Node{dirNode(1, 0, "a")}}, 5, api.ErrTree)
}

func TestLoadsDepth(t *testing.T) {
	// The deepest directory has the lowest number, so that parents stand behind what lies in them.
	chain := func(depth int) []api.Node {
		var l []api.Node
		for n := 1; n <= depth; n++ {
			l = append(l, dirNode(n, (n+1)%(depth+1), "d"))
		}
		return l
	}
	room := func(l []api.Node, more ...api.Node) api.TreeState {
		return api.TreeState{Files: 5, Dirs: 20, Nodes: append(slices.Clone(l), more...)}
	}
	wantLoad(t, "sixteen directories", room(chain(16)), 5, api.OK)
	wantLoad(t, "seventeen directories", room(chain(17)), 5, api.ErrTree)
	wantLoad(t, "twenty directories", room(chain(20)), 5, api.ErrTree)
	wantLoad(t, "a file in the fifteenth", room(chain(15), fileNode(0, 1, "f", 0)), 5, api.OK)
	wantLoad(t, "a file in the sixteenth", room(chain(16), fileNode(0, 1, "f", 0)), 5, api.ErrTree)
}

// Each field of each node is changed to each of many values: Load takes just what the document's words take.
func TestLoadTakesStatesAlone(t *testing.T) {
	r := rand.New(rand.NewSource(122))
	taken, refused := 0, 0
	for range 20000 {
		p := newPlain(1+r.Intn(5), r.Intn(5), 5)
		for range 12 {
			p.do(someOp(r, p))
		}
		s := p.state()
		for range r.Intn(3) {
			spoil(r, &s)
		}
		fault := api.OK
		if !plainIsState(s, 5) {
			fault = api.ErrTree
			refused++
		} else {
			taken++
		}
		wantLoad(t, fmt.Sprint(s), s, 5, fault)
		if t.Failed() {
			return
		}
	}
	if taken < 1000 || refused < 1000 {
		t.Errorf("%d states were taken, %d refused: too few to say something", taken, refused)
	}
}

func spoil(r *rand.Rand, s *api.TreeState) {
	s.Nodes = slices.Clone(s.Nodes)
	small := r.Intn(8) - 1
	switch k := r.Intn(10); {
	case k == 0:
		s.Files = small
	case k == 1:
		s.Dirs = small
	case len(s.Nodes) == 0:
	case k == 2:
		i, j := r.Intn(len(s.Nodes)), r.Intn(len(s.Nodes))
		s.Nodes[i], s.Nodes[j] = s.Nodes[j], s.Nodes[i]
	case k == 3:
		i := r.Intn(len(s.Nodes))
		s.Nodes = slices.Delete(s.Nodes, i, i+1)
	default:
		n := &s.Nodes[r.Intn(len(s.Nodes))]
		switch k {
		case 4:
			n.Kind = small
		case 5:
			n.Number = small
		case 6, 7:
			n.Parent = small
		case 8:
			n.Name = []string{"a", "b", "c", "d", "", "/"}[r.Intn(6)]
		case 9:
			n.Size = small
		}
	}
}

// plainIsState asks for each of the words that make a tree.
func plainIsState(s api.TreeState, most int) bool {
	if s.Files < 1 || s.Files > 65536 || s.Dirs < 0 || s.Dirs > 4096 {
		return false
	}
	dirs := map[int]api.Node{}
	for i, n := range s.Nodes {
		isDir := n.Kind == 1 && n.Number >= 1 && n.Number <= s.Dirs && n.Size == 0
		isFile := n.Kind == 2 && n.Number >= 0 && n.Number < s.Files && n.Size >= 0 && n.Size <= most
		if _, e := plainParse("/" + n.Name); !isDir && !isFile || e != 0 || n.Name == "" || strings.Contains(n.Name, "/") {
			return false
		}
		for _, m := range s.Nodes[:i] {
			if m.Kind > n.Kind || m.Kind == n.Kind && m.Number >= n.Number || m.Parent == n.Parent && m.Name == n.Name {
				return false
			}
		}
		if isDir {
			dirs[n.Number] = n
		}
	}
	for _, n := range s.Nodes {
		names := 1
		for n.Parent != 0 {
			parent, ok := dirs[n.Parent]
			if names++; !ok || names > 16 {
				return false
			}
			n = parent
		}
	}
	return true
}

func TestLoadKeepsNothing(t *testing.T) {
	back := append(goodState().Nodes, fileNode(7, 7, "behind", 7))
	s := api.TreeState{Files: 3, Dirs: 3, Nodes: back[:4]}
	x := mustLoad(t, s, 100)
	for range 3 {
		x.Do(create("/more"))
		x.Do(remove("/more"))
	}
	if !slices.Equal(back, append(goodState().Nodes, fileNode(7, 7, "behind", 7))) {
		t.Errorf("what was handed in is %v", back)
	}
	for i := range back {
		back[i] = fileNode(-5, -5, "spoilt", -5)
	}
	wantState(t, x, goodState())
	want(t, x, stat("/a/b/b"), api.Result{Kind: 2, Size: 100}, none)
}

// Of several trees that came of one another each is changed, and the others stay.
func TestTreesShareNothing(t *testing.T) {
	x := mustLoad(t, goodState(), 100)
	y := x.Copy()
	z := y.Copy()
	v := mustLoad(t, y.State(), 100)
	all := []*Tree{x, y, z, v}
	changes := [][]api.Op{
		{write("/a/b/b", 0, "x"), cut("/a/b/b", 1), create("/a/b/c")},
		{remove("/a/b/b"), rmdir("/a/b"), rename("/a", "/e")},
		{rename("/z", "/a/b/b"), mkdir("/a/b/d")},
		{rename("/a/b", "/b"), remove("/z")},
	}
	behind := []api.TreeState{
		{Files: 3, Dirs: 3, Nodes: []api.Node{dirNode(1, 3, "b"), dirNode(3, 0, "a"), fileNode(0, 1, "b", 1), fileNode(1, 1, "c", 0), fileNode(2, 0, "z", 0)}},
		{Files: 3, Dirs: 3, Nodes: []api.Node{dirNode(3, 0, "e"), fileNode(2, 0, "z", 0)}},
		{Files: 3, Dirs: 3, Nodes: []api.Node{dirNode(1, 3, "b"), dirNode(2, 1, "d"), dirNode(3, 0, "a"), fileNode(2, 1, "b", 0)}},
		{Files: 3, Dirs: 3, Nodes: []api.Node{dirNode(1, 0, "b"), dirNode(3, 0, "a"), fileNode(0, 1, "b", 100)}},
	}
	for i, tree := range all {
		mustDo(t, tree, changes[i]...)
		for j, other := range all {
			state := goodState()
			if j <= i {
				state = behind[j]
			}
			wantState(t, other, state)
		}
	}
	want(t, x, list("/a/b"), api.Result{Names: []string{"b", "c"}}, none)
	want(t, z, list("/a/b"), api.Result{Names: []string{"b", "d"}}, none)
	want(t, v, list("/b"), api.Result{Names: []string{"b"}}, none)
}

func TestCopyHasTheSameMost(t *testing.T) {
	x := mustNew(t, 1, 0, 7)
	mustDo(t, x, create("/f"))
	y := x.Copy()
	wantNo(t, y, api.ErrBig, cut("/f", 8))
	mustDo(t, y, cut("/f", 7))
	wantNo(t, y, api.ErrRoom, create("/g"), mkdir("/g"))
}

// P12.3, P12.4, P12.5

func TestExamples(t *testing.T) {
	x := mustNew(t, 3, 2, 100)
	want(t, x, mkdir("/a"), api.Result{}, none)
	wantNo(t, x, 121, mkdir("/a"), mkdir("/"))
	wantNo(t, x, 120, mkdir("/b/c"))
	wantNo(t, x, 110, mkdir("/a/"))
	want(t, x, create("/a/f"), api.Result{}, effect(1, 0, -1, 0, 0, "", 0))
	wantNo(t, x, 122, create("/a/f/g"))
	wantNo(t, x, 121, create("/a"))
	want(t, x, write("/a/f", 3, "xyz"), api.Result{N: 3}, effect(3, 0, -1, 3, 0, "xyz", 6))
	wantNo(t, x, 3, write("/a/f", 98, "xyz"), write("/a/f", 101, ""))
	want(t, x, write("/a/f", 100, ""), api.Result{}, effect(3, 0, -1, 100, 0, "", 6))
	wantNo(t, x, 123, write("/a", 0, "x"))
	want(t, x, read("/a/f", 4, 10), api.Result{N: 2}, effect(2, 0, -1, 4, 2, "", 6))
	want(t, x, read("/a/f", 6, 10), api.Result{}, effect(2, 0, -1, 6, 0, "", 6))
	want(t, x, read("/a/f", 1000, 10), api.Result{}, effect(2, 0, -1, 1000, 0, "", 6))
	wantNo(t, x, 1, read("/a/f", -1, 1), read("/a/f", 1, -1))
	wantNo(t, x, 120, read("/a/-", 0, 1))
	want(t, x, cut("/a/f", 2), api.Result{}, effect(4, 0, -1, 0, 2, "", 2))
	wantNo(t, x, 3, cut("/a/f", 101))
	wantNo(t, x, 1, cut("/a/f", -1))
	want(t, x, stat("/a/f"), api.Result{Kind: 2, Size: 2}, none)
	want(t, x, stat("/a"), api.Result{Kind: 1}, none)
	want(t, x, stat("/"), api.Result{Kind: 1}, none)
	want(t, x, create("/g"), api.Result{}, effect(1, 1, -1, 0, 0, "", 0))
	want(t, x, rename("/g", "/a/f"), api.Result{}, effect(6, 1, 0, 0, 0, "", 0))
	want(t, x, stat("/a/f"), api.Result{Kind: 2}, none)
	want(t, x, create("/h"), api.Result{}, effect(1, 0, -1, 0, 0, "", 0))
	want(t, x, list("/"), api.Result{Names: []string{"a", "h"}}, none)
	want(t, x, list("/a"), api.Result{Names: []string{"f"}}, none)
	wantNo(t, x, 122, list("/h"))
	want(t, x, rename("/a", "/a"), api.Result{}, none)
	want(t, x, rename("/", "/"), api.Result{}, none)
	wantNo(t, x, 126, rename("/a", "/a/x"), rename("/", "/x"))
	wantNo(t, x, 122, rename("/h", "/h/x"), rename("/a", "/h"))
	wantNo(t, x, 121, rename("/h", "/"), rename("/h", "/a"))
	wantNo(t, x, 110, rename("/z", "x"))
	wantNo(t, x, 120, rename("/z", "/y"))
	want(t, x, rename("/a", "/b"), api.Result{}, none)
	want(t, x, stat("/b/f"), api.Result{Kind: 2}, none)
	wantNo(t, x, 124, rmdir("/b"))
	wantNo(t, x, 1, rmdir("/"))
	wantNo(t, x, 122, rmdir("/h"))
	wantNo(t, x, 123, remove("/b"))
	want(t, x, remove("/b/f"), api.Result{}, effect(5, 1, -1, 0, 0, "", 0))
	want(t, x, rmdir("/b"), api.Result{}, none)
	want(t, x, create("/1"), api.Result{}, effect(1, 1, -1, 0, 0, "", 0))
	want(t, x, create("/2"), api.Result{}, effect(1, 2, -1, 0, 0, "", 0))
	wantNo(t, x, 125, create("/3"))
	mustDo(t, x, mkdir("/p"), mkdir("/q"))
	wantNo(t, x, 125, mkdir("/r"))
	wantState(t, x, api.TreeState{Files: 3, Dirs: 2, Nodes: []api.Node{
		dirNode(1, 0, "p"), dirNode(2, 0, "q"), fileNode(0, 0, "h", 0), fileNode(1, 0, "1", 0), fileNode(2, 0, "2", 0),
	}})
}

// What is wrong with the operation itself counts ahead of what the tree says, in the order that the document tells.
func TestFaultsAheadOfTheTree(t *testing.T) {
	x := mustNew(t, 3, 2, 100)
	mustDo(t, x, create("/f"), mkdir("/d"))
	for _, kind := range []int{0, 11, 12, -1, math.MinInt, math.MaxInt} {
		wantNo(t, x, api.ErrOp, api.Op{Kind: kind, Path: "/f"}, api.Op{Kind: kind, Path: "f", To: "f", At: -1, N: -1})
	}
	deep, long := strings.Repeat("/a", 17), "/"+strings.Repeat("n", 33)
	for kind := 1; kind <= 10; kind++ {
		all := func(path, to string) api.Op { return api.Op{Kind: kind, Path: path, To: to, At: -1, N: -1} }
		wantNo(t, x, api.ErrPath, all("", long), all("f", deep), all("/f/", long), all(strings.Repeat("/a", 513), ""))
		wantNo(t, x, api.ErrName, all(long, ""), all("//f", deep), all("/f/..", "f"), all(deep+"/ ", ""))
		wantNo(t, x, api.ErrDepth, all(deep, ""), all(deep, long))
	}
	wantNo(t, x, api.ErrPath, rename("/none", ""), rename("/none/none", "f"), rename("/f/f", "/f/"))
	wantNo(t, x, api.ErrName, rename("/none", long), rename("/", "//"+"f"))
	wantNo(t, x, api.ErrDepth, rename("/none", deep))
	wantNo(t, x, api.ErrArg, read("/none", -1, 0), read("/", 0, -1), read("/f/f", math.MinInt, 0), write("/", -1, ""), write("/none/x", math.MinInt, ""), cut("/d", -1), cut("/none", math.MinInt))
}

// Fields that a kind does not look at may be anything.
func TestFieldsThatDoNotCount(t *testing.T) {
	for kind := 1; kind <= 10; kind++ {
		x := mustNew(t, 3, 3, 100)
		mustDo(t, x, create("/f"), mkdir("/d"), cut("/f", 9))
		op := api.Op{Kind: kind, Path: "/f", To: "no path", At: -1, N: -1, Data: strings.Repeat("x", 200)}
		switch kind {
		case api.OpMkdir, api.OpCreate:
			op.Path = "/n"
		case api.OpRmdir, api.OpList:
			op.Path = "/d"
		case api.OpRead:
			op.At, op.N = 2, 3
		case api.OpWrite:
			op.At, op.Data = 2, "xy"
		case api.OpCut:
			op.N = 5
		case api.OpRename:
			op.To = "/n"
		}
		bare := api.Op{Kind: kind, Path: op.Path}
		switch kind {
		case api.OpRead:
			bare.At, bare.N = 2, 3
		case api.OpWrite:
			bare.At, bare.Data = 2, "xy"
		case api.OpCut:
			bare.N = 5
		case api.OpRename:
			bare.To = "/n"
		}
		y := x.Copy()
		r, f := y.Do(bare)
		if r.Code != api.OK {
			t.Errorf("Do(%v): %d", bare, r.Code)
		}
		want(t, x, op, r, f)
		wantState(t, x, y.State())
	}
}

func TestFinding(t *testing.T) {
	x := mustNew(t, 3, 4, 100)
	mustDo(t, x, mkdir("/d"), mkdir("/d/e"), create("/f"), create("/d/f"))
	for kind := 1; kind <= 10; kind++ {
		op := func(path string) api.Op { return api.Op{Kind: kind, Path: path, To: "/new"} }
		wantNo(t, x, api.ErrAbsent, op("/n/d"), op("/d/n/f"), op("/d/e/n/f"), op("/n/n/n"))
		wantNo(t, x, api.ErrNotDir, op("/f/d"), op("/d/f/f"), op("/f/n/n"), op("/d/f/f/f"))
		if kind > 2 {
			wantNo(t, x, api.ErrAbsent, op("/n"), op("/d/n"), op("/d/e/n"))
		}
	}
}

func TestTheRoot(t *testing.T) {
	x := mustNew(t, 1, 1, 100)
	for range 2 {
		wantNo(t, x, api.ErrThere, mkdir("/"), create("/"))
		wantNo(t, x, api.ErrIsDir, read("/", 0, 0), write("/", 0, ""), write("/", 101, ""), cut("/", 0), cut("/", 101), remove("/"))
		wantNo(t, x, api.ErrArg, rmdir("/"))
		wantNo(t, x, api.ErrLoop, rename("/", "/a"), rename("/", "/a/b"), rename("/", "/f/b"))
		want(t, x, rename("/", "/"), api.Result{}, none)
		want(t, x, stat("/"), api.Result{Kind: 1}, none)
		x.Do(create("/f"))
	}
	want(t, x, list("/"), api.Result{Names: []string{"f"}}, none)
	wantNo(t, x, api.ErrThere, rename("/f", "/"))
	mustDo(t, x, mkdir("/d"))
	wantNo(t, x, api.ErrThere, rename("/d", "/"))
	wantNo(t, x, api.ErrAbsent, rename("/none", "/"))
	wantNo(t, x, api.ErrRoom, mkdir("/e"))
}

func TestMkdirAndCreate(t *testing.T) {
	x := mustNew(t, 2, 1, 100)
	mustDo(t, x, mkdir("/d"), create("/f"))
	// Something there counts ahead of no room, and so does a fault of finding.
	mustDo(t, x, create("/g"))
	wantNo(t, x, api.ErrThere, mkdir("/d"), mkdir("/f"), create("/d"), create("/f"))
	wantNo(t, x, api.ErrAbsent, mkdir("/n/n"), create("/n/n"))
	wantNo(t, x, api.ErrNotDir, mkdir("/f/n"), create("/f/n"))
	wantNo(t, x, api.ErrRoom, mkdir("/n"), create("/n"), mkdir("/d/n"), create("/d/n"))
	mustDo(t, x, rmdir("/d"), mkdir("/n"))
	wantNo(t, x, api.ErrRoom, create("/d"))
	y := mustNew(t, 1, 0, 0)
	wantNo(t, y, api.ErrRoom, mkdir("/d"))
	want(t, y, create("/d"), api.Result{}, api.Effect{Kind: 1, File: 0, Gone: -1})
}

func TestTheLowestFreeNumber(t *testing.T) {
	x := mustNew(t, 5, 5, 100)
	for n := range 5 {
		want(t, x, create(fmt.Sprint("/f", n)), api.Result{}, api.Effect{Kind: 1, File: n, Gone: -1})
		mustDo(t, x, mkdir(fmt.Sprint("/d", n)))
	}
	for _, order := range [][]int{{3, 1}, {1, 3}, {4, 0, 2}, {0, 1, 2, 3, 4}, {4, 3, 2, 1, 0}, {2}} {
		for _, n := range order {
			mustDo(t, x, remove(fmt.Sprint("/f", n)), rmdir(fmt.Sprint("/d", n)))
		}
		slices.Sort(order)
		for _, n := range order {
			want(t, x, create(fmt.Sprint("/f", n)), api.Result{}, api.Effect{Kind: 1, File: n, Gone: -1})
			mustDo(t, x, mkdir(fmt.Sprint("/d", n)))
		}
		s := api.TreeState{Files: 5, Dirs: 5}
		for n := range 5 {
			s.Nodes = append(s.Nodes, dirNode(n+1, 0, fmt.Sprint("d", n)))
		}
		for n := range 5 {
			s.Nodes = append(s.Nodes, fileNode(n, 0, fmt.Sprint("f", n), 0))
		}
		wantState(t, x, s)
		wantNo(t, x, api.ErrRoom, create("/f"), mkdir("/d"))
	}
}

func TestReadWriteCut(t *testing.T) {
	x := mustNew(t, 2, 1, 10)
	mustDo(t, x, mkdir("/d"), create("/e"), create("/f"))
	file := func(kind, at, n int, data string, size int) api.Effect {
		return api.Effect{Kind: kind, File: 1, Gone: -1, At: at, N: n, Data: data, Size: size}
	}
	want(t, x, read("/f", 0, 5), api.Result{}, file(2, 0, 0, "", 0))
	want(t, x, write("/f", 0, ""), api.Result{}, file(3, 0, 0, "", 0))
	want(t, x, write("/f", 10, ""), api.Result{}, file(3, 10, 0, "", 0))
	want(t, x, write("/f", 2, "ab"), api.Result{N: 2}, file(3, 2, 0, "ab", 4))
	want(t, x, write("/f", 0, "abc"), api.Result{N: 3}, file(3, 0, 0, "abc", 4))
	want(t, x, write("/f", 3, "a"), api.Result{N: 1}, file(3, 3, 0, "a", 4))
	want(t, x, write("/f", 4, "a"), api.Result{N: 1}, file(3, 4, 0, "a", 5))
	want(t, x, write("/f", 10, ""), api.Result{}, file(3, 10, 0, "", 5))
	wantNo(t, x, api.ErrBig, write("/f", 11, ""), write("/f", 10, "a"), write("/f", 0, strings.Repeat("x", 11)), write("/f", 1, strings.Repeat("x", 10)), write("/f", math.MaxInt, ""), write("/f", math.MaxInt, "a"), write("/f", math.MaxInt-10, "aaaaaaaaaaaa"))
	for at := range 8 {
		for n := range 8 {
			got := max(min(n, 5-at), 0)
			want(t, x, read("/f", at, n), api.Result{N: got}, file(2, at, got, "", 5))
		}
		want(t, x, read("/f", at, math.MaxInt), api.Result{N: max(5-at, 0)}, file(2, at, max(5-at, 0), "", 5))
	}
	want(t, x, read("/f", math.MaxInt, math.MaxInt), api.Result{}, file(2, math.MaxInt, 0, "", 5))
	want(t, x, write("/f", 0, strings.Repeat("x", 10)), api.Result{N: 10}, file(3, 0, 0, strings.Repeat("x", 10), 10))
	want(t, x, cut("/f", 10), api.Result{}, file(4, 0, 10, "", 10))
	want(t, x, cut("/f", 0), api.Result{}, file(4, 0, 0, "", 0))
	want(t, x, cut("/f", 3), api.Result{}, file(4, 0, 3, "", 3))
	wantNo(t, x, api.ErrBig, cut("/f", 11), cut("/f", math.MaxInt))
	// What is there counts ahead of how much.
	wantNo(t, x, api.ErrIsDir, write("/d", 11, ""), cut("/d", 11), read("/d", 11, 11))
	wantNo(t, x, api.ErrAbsent, write("/n", 11, ""), cut("/n", 11))
	wantNo(t, x, api.ErrNotDir, write("/f/n", 11, ""), cut("/f/n", 11))
	want(t, x, stat("/f"), api.Result{Kind: 2, Size: 3}, none)
	want(t, x, stat("/e"), api.Result{Kind: 2}, none)
}

func TestRename(t *testing.T) {
	x := mustNew(t, 4, 4, 100)
	mustDo(t, x, mkdir("/d"), mkdir("/d/e"), mkdir("/da"), create("/f"), create("/d/e/f"), create("/g"), cut("/f", 7), cut("/d/e/f", 9))
	want(t, x, rename("/f", "/f"), api.Result{}, none)
	want(t, x, rename("/d", "/d"), api.Result{}, none)
	wantNo(t, x, api.ErrLoop, rename("/d", "/d/x"), rename("/d", "/d/e"), rename("/d", "/d/e/f"), rename("/d", "/d/n/n"), rename("/d", "/d/e/f/n"), rename("/d/e", "/d/e/x"))
	wantNo(t, x, api.ErrThere, rename("/d/e", "/d"), rename("/d/e/f", "/d/e"), rename("/d", "/da"), rename("/f", "/d"), rename("/f", "/"), rename("/d", "/"))
	wantNo(t, x, api.ErrNotDir, rename("/d", "/f"), rename("/f", "/g/n"), rename("/d", "/g/n"), rename("/f", "/f/n"), rename("/f/n", "/n"))
	wantNo(t, x, api.ErrAbsent, rename("/n", "/n"), rename("/n", "/f"), rename("/n/n", "/n"), rename("/f", "/n/n"), rename("/d", "/n/n"), rename("/n", "/d/e"))
	want(t, x, rename("/f", "/d/e/f"), api.Result{}, api.Effect{Kind: 6, File: 0, Gone: 1, Size: 7})
	want(t, x, rename("/g", "/f"), api.Result{}, none)
	want(t, x, rename("/d", "/da/d"), api.Result{}, none)
	wantState(t, x, api.TreeState{Files: 4, Dirs: 4, Nodes: []api.Node{
		dirNode(1, 3, "d"), dirNode(2, 1, "e"), dirNode(3, 0, "da"), fileNode(0, 2, "f", 7), fileNode(2, 0, "f", 0),
	}})
	want(t, x, list("/da/d/e"), api.Result{Names: []string{"f"}}, none)
	want(t, x, rename("/da/d/e/f", "/da/d/e/g"), api.Result{}, none)
	want(t, x, list("/da/d/e"), api.Result{Names: []string{"g"}}, none)
	want(t, x, create("/h"), api.Result{}, api.Effect{Kind: 1, File: 1, Gone: -1})
	want(t, x, rename("/da/d", "/d"), api.Result{}, none)
	want(t, x, rmdir("/da"), api.Result{}, none)
	want(t, x, rename("/d/e", "/da"), api.Result{}, none)
	want(t, x, list("/"), api.Result{Names: []string{"d", "da", "f", "h"}}, none)
	want(t, x, list("/d"), api.Result{}, none)
}

// chain makes a directory in which directories lie in one another, and tells the path of the last one.
func chain(t *testing.T, x *Tree, path, name string, more int) string {
	t.Helper()
	for range more {
		path += "/" + name
		mustDo(t, x, mkdir(path))
	}
	return path
}

func TestRenamesDepth(t *testing.T) {
	for height := range 5 {
		for _, file := range []bool{false, true} {
			x := mustNew(t, 4, 40, 100)
			chain(t, x, "", "a", 16)
			last := chain(t, x, "", "d", 1+height)
			below := height
			if file {
				mustDo(t, x, create(last+"/f"))
				below++
			}
			// Beside the deepest node there are others, which count no more than they are deep.
			if height > 0 {
				mustDo(t, x, mkdir("/d/z"), create("/d/y"))
			}
			for to := 16; to > 1; to-- {
				target := strings.Repeat("/a", to-1) + "/x"
				if to+below > 16 {
					wantNo(t, x, api.ErrDepth, rename("/d", target))
					continue
				}
				want(t, x.Copy(), rename("/d", target), api.Result{}, none)
			}
			wantNo(t, x, api.ErrDepth, rename("/d", strings.Repeat("/a", 16)+"/x"))
			wantNo(t, x, api.ErrThere, rename("/d", strings.Repeat("/a", 16)))
			wantNo(t, x, api.ErrAbsent, rename("/d", strings.Repeat("/a", 14)+"/n/n"))
		}
	}
	x := mustNew(t, 4, 40, 100)
	chain(t, x, "", "a", 15)
	mustDo(t, x, create("/f"), mkdir("/d"), create("/d/f"))
	want(t, x, rename("/f", strings.Repeat("/a", 15)+"/f"), api.Result{}, none)
	wantNo(t, x, api.ErrNotDir, rename("/d", strings.Repeat("/a", 15)+"/f"))
	wantNo(t, x, api.ErrDepth, rename("/d", strings.Repeat("/a", 15)+"/g"))
	want(t, x, rename(strings.Repeat("/a", 15)+"/f", "/f"), api.Result{}, none)
}

func TestRemoveAndRmdir(t *testing.T) {
	x := mustNew(t, 4, 4, 100)
	mustDo(t, x, mkdir("/d"), mkdir("/e"), mkdir("/e/d"), create("/f"), create("/d/f"), cut("/d/f", 7))
	wantNo(t, x, api.ErrFilled, rmdir("/d"), rmdir("/e"))
	wantNo(t, x, api.ErrIsDir, remove("/d"), remove("/e/d"))
	wantNo(t, x, api.ErrNotDir, rmdir("/f"), rmdir("/d/f"))
	want(t, x, remove("/d/f"), api.Result{}, api.Effect{Kind: 5, File: 1, Gone: -1})
	wantNo(t, x, api.ErrAbsent, remove("/d/f"))
	want(t, x, rmdir("/d"), api.Result{}, none)
	wantNo(t, x, api.ErrAbsent, rmdir("/d"), stat("/d/f"))
	want(t, x, rmdir("/e/d"), api.Result{}, none)
	want(t, x, rmdir("/e"), api.Result{}, none)
	want(t, x, create("/d"), api.Result{}, api.Effect{Kind: 1, File: 1, Gone: -1})
	want(t, x, stat("/d"), api.Result{Kind: 2}, none)
	want(t, x, mkdir("/e"), api.Result{}, none)
	want(t, x, list("/e"), api.Result{}, none)
}

func TestListIsByBytesAndNewMemory(t *testing.T) {
	x := mustNew(t, 9, 9, 100)
	mustDo(t, x, create("/b"), mkdir("/a"), create("/B"), mkdir("/~"), create("/!"), create("/ab"), create("/a!"), mkdir("/10"), create("/9"), create("/a/in"))
	for range 3 {
		r, f := x.Do(list("/"))
		if !slices.Equal(r.Names, []string{"!", "10", "9", "B", "a", "a!", "ab", "b", "~"}) || f != none {
			t.Errorf("List: %v, %v", r, f)
		}
		all := r.Names[:cap(r.Names)]
		for i := range all {
			all[i] = "spoilt"
		}
	}
	want(t, x, list("/a"), api.Result{Names: []string{"in"}}, none)
	want(t, x, list("/~"), api.Result{}, none)
}

// Long random runs, in rooms of all shapes: result, effect and state are those of the document's words.
func TestManyStepsAsTheWordsSay(t *testing.T) {
	codes := map[api.Errno]int{}
	for seed := range 60 {
		r := rand.New(rand.NewSource(int64(seed)))
		files, dirs, most := 1+r.Intn(6), r.Intn(22), r.Intn(30)
		x, p := mustNew(t, files, dirs, most), newPlain(files, dirs, most)
		for range 400 {
			op := someOp(r, p)
			codes[holdStep(t, x, p, op)]++
		}
	}
	for _, e := range []api.Errno{0, 1, 3, 110, 111, 112, 120, 121, 122, 123, 124, 125, 126, 127} {
		if codes[e] < 5 {
			t.Errorf("the runs came to the code %d only %d times", e, codes[e])
		}
	}
}

// P12.6

// twin is a tree of the same paths, kinds and sizes, whose nodes have other numbers: those that a run of its own gave them.
func twin(t *testing.T, p *plainTree) (*Tree, *plainTree) {
	t.Helper()
	x, q := mustNew(t, p.files, p.dirs, p.most), newPlain(p.files, p.dirs, p.most)
	paths := slices.Sorted(maps.Keys(p.at))
	slices.Reverse(paths)
	slices.SortStableFunc(paths, func(a, b string) int { return strings.Count(a, "/") - strings.Count(b, "/") })
	for _, path := range paths[1:] {
		n := p.at[path]
		ops := []api.Op{mkdir(path)}
		if n.kind == 2 {
			ops = []api.Op{create(path), cut(path, n.size)}
		}
		mustDo(t, x, ops...)
		for _, op := range ops {
			q.do(op)
		}
	}
	return x, q
}

func TestCodesHangOnPathsAlone(t *testing.T) {
	for seed := range 20 {
		r := rand.New(rand.NewSource(int64(1000 + seed)))
		x, p := mustNew(t, 5, 20, 30), newPlain(5, 20, 30)
		for range 60 {
			op := someOp(r, p)
			x.Do(op)
			p.do(op)
		}
		y, q := twin(t, p)
		for range 100 {
			op := someOp(r, p)
			a, _ := x.Do(op)
			b, _ := y.Do(op)
			p.do(op)
			if !sameResult(a, b) {
				t.Fatalf("Do(%v): %v, of the twin %v", op, a, b)
			}
			q.do(op)
		}
		wantState(t, x, p.state())
		wantState(t, y, q.state())
	}
}

// Copies and loaded trees go on as the one that they came of does.
func TestEveryStateCanBeLoaded(t *testing.T) {
	for seed := range 20 {
		r := rand.New(rand.NewSource(int64(2000 + seed)))
		x, p := mustNew(t, 4, 20, 12), newPlain(4, 20, 12)
		for range 150 {
			y, q := x.Copy(), p.copy()
			z := mustLoad(t, x.State(), 12)
			for range 3 {
				op := someOp(r, q)
				a, f := q.do(op)
				want(t, y, op, a, f)
				want(t, z, op, a, f)
			}
			wantState(t, y, q.state())
			wantState(t, z, q.state())
			holdStep(t, x, p, someOp(r, p))
			if r.Intn(10) == 0 {
				x = z
				p = q
			}
		}
	}
}

func TestAFileKeepsItsNumber(t *testing.T) {
	x := mustNew(t, 3, 3, 100)
	mustDo(t, x, create("/a"), create("/b"), mkdir("/d"), mkdir("/d/e"), remove("/a"))
	number := func(path string) int {
		r, f := x.Do(read(path, 0, 0))
		if r.Code != api.OK {
			t.Fatalf("Read of %s: %d", path, r.Code)
		}
		return f.File
	}
	for _, to := range []string{"/d/b", "/d/e/b", "/d/e/c", "/b"} {
		for _, from := range []string{"/b", "/d/b", "/d/e/b", "/d/e/c"} {
			x.Do(rename(from, to))
		}
		if n := number(to); n != 1 {
			t.Errorf("the file at %s is %d", to, n)
		}
	}
	mustDo(t, x, rename("/b", "/d/e/b"), rename("/d", "/c"), rename("/c/e", "/e"), create("/a"), write("/e/b", 0, "x"))
	if n := number("/e/b"); n != 1 {
		t.Errorf("the file is %d", n)
	}
}

// P12.7

func TestTheGreatestTree(t *testing.T) {
	x := mustNew(t, 65536, 4096, 65536)
	for d := 1; d <= 4096; d++ {
		mustDo(t, x, mkdir(fmt.Sprint("/", d)))
	}
	for f := range 65536 {
		r, effect := x.Do(create(fmt.Sprint("/", 1+f%4096, "/", f)))
		if r.Code != api.OK || effect.File != f {
			t.Fatalf("file %d: %v, %v", f, r, effect)
		}
	}
	wantNo(t, x, api.ErrRoom, mkdir("/more"), create("/more"))
	mustDo(t, x, cut("/1/0", 65536))
	y := mustLoad(t, x.State(), 65536)
	wantState(t, y, x.State())
	for _, tree := range []*Tree{x, y, x.Copy()} {
		mustDo(t, tree, remove("/5/4"), remove("/4096/65535"))
		want(t, tree, create("/x"), api.Result{}, api.Effect{Kind: 1, File: 4, Gone: -1})
		want(t, tree, create("/y"), api.Result{}, api.Effect{Kind: 1, File: 65535, Gone: -1})
		want(t, tree, rename("/1/0", "/y"), api.Result{}, api.Effect{Kind: 6, File: 0, Gone: 65535, Size: 65536})
		want(t, tree, list("/5"), api.Result{Names: []string{"12292", "16388", "20484", "24580", "28676", "32772", "36868", "40964", "4100", "45060", "49156", "53252", "57348", "61444", "8196"}}, none)
	}
}

func TestManyAtOnce(t *testing.T) {
	var all sync.WaitGroup
	for seed := range 8 {
		all.Add(1)
		go func() {
			defer all.Done()
			r := rand.New(rand.NewSource(int64(seed % 4)))
			x, _ := New(4, 20, 12)
			p := newPlain(4, 20, 12)
			for range 200 {
				op := someOp(r, p)
				a, f := x.Do(op)
				if b, g := p.do(op); !sameResult(a, b) || f != g {
					t.Errorf("Do(%v): %v, %v, want %v, %v", op, a, f, b, g)
				}
			}
		}()
	}
	all.Wait()
}

// A copied Tree is the same tree: what one is done to, the other one shows.
func TestACopiedStructIsTheSameTree(t *testing.T) {
	x := mustNew(t, 3, 3, 3)
	y := *x
	mustDo(t, &y, mkdir("/a"), create("/a/b"))
	mustDo(t, x, create("/c"))
	wantState(t, x, api.TreeState{Files: 3, Dirs: 3, Nodes: []api.Node{dirNode(1, 0, "a"), fileNode(0, 1, "b", 0), fileNode(1, 0, "c", 0)}})
	wantState(t, &y, x.State())
}
