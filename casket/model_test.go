package casket

import (
	"maps"
	"slices"
	"strings"

	"casket/api"
	"casket/path"
)

// model is the file system that the whole's promises speak of: what is at each path, and nothing else. An operation does to
// it what chapters 12 and 16 say, from top to bottom. Paths are read by layer 11, which is taken for what it says.
type model struct {
	c  api.Config
	at map[string]thing // by path; of the root there is none
}

// thing is a directory, or a file with its number and content.
type thing struct {
	dir    bool
	number int
	data   string
}

// class is what of an operation may show (P15.6): nothing, or the making, the use or the end of a file.
type class struct {
	sort, file int
}

const (
	isNothing = iota
	isMade
	isUse
	isEnd
)

func newModel(c api.Config) *model { return &model{c: c, at: map[string]thing{}} }

func (m *model) copy() *model { return &model{c: m.c, at: maps.Clone(m.at)} }

// same is whether no operation could tell the two from each other.
func (m *model) same(other *model) bool {
	return maps.EqualFunc(m.at, other.at, func(a, b thing) bool { return a.dir == b.dir && a.data == b.data })
}

func textOf(names []string) string { return "/" + strings.Join(names, "/") }

// find is what a path names.
func (m *model) find(names []string) (thing, bool, api.Errno) {
	for i := 1; i < len(names); i++ {
		x, there := m.at[textOf(names[:i])]
		if !there {
			return thing{}, false, api.ErrAbsent
		}
		if !x.dir {
			return thing{}, false, api.ErrNotDir
		}
	}
	if len(names) == 0 {
		return thing{dir: true}, true, api.OK
	}
	x, there := m.at[textOf(names)]
	return x, there, api.OK
}

// inside is the names of all that lies in a directory, right in it or deeper.
func (m *model) inside(names []string) []string {
	var list []string
	ahead := textOf(names)
	if len(names) > 0 {
		ahead += "/"
	}
	for p := range m.at {
		if strings.HasPrefix(p, ahead) {
			list = append(list, p[len(ahead):])
		}
	}
	slices.Sort(list)
	return list
}

// files is the paths of all files, by their numbers.
func (m *model) files() map[int]string {
	paths := map[int]string{}
	for p, x := range m.at {
		if !x.dir {
			paths[x.number] = p
		}
	}
	return paths
}

func (m *model) dirs() []string {
	list := []string{"/"}
	for p, x := range m.at {
		if x.dir {
			list = append(list, p)
		}
	}
	slices.Sort(list)
	return list
}

func refused(e api.Errno) (api.Result, class) { return api.Result{Code: e}, class{} }

// do is an operation's answer and class.
func (m *model) do(op api.Op) (api.Result, class) {
	if op.Kind < 1 || op.Kind > 10 {
		return refused(api.ErrOp)
	}
	names, e := path.Parse(op.Path)
	if e != api.OK {
		return refused(e)
	}
	var to []string
	if op.Kind == api.OpRename {
		if to, e = path.Parse(op.To); e != api.OK {
			return refused(e)
		}
	}
	if (op.Kind == api.OpRead || op.Kind == api.OpWrite) && op.At < 0 || (op.Kind == api.OpRead || op.Kind == api.OpCut) && op.N < 0 {
		return refused(api.ErrArg)
	}
	switch op.Kind {
	case api.OpMkdir, api.OpCreate:
		return m.make(op.Kind == api.OpMkdir, names)
	case api.OpRead, api.OpWrite, api.OpCut:
		return m.use(op, names)
	case api.OpRename:
		return m.rename(names, to)
	case api.OpRemove:
		return m.remove(names)
	case api.OpRmdir:
		return m.rmdir(names)
	case api.OpList:
		return m.list(names)
	}
	return m.stat(names)
}

func (m *model) make(dir bool, names []string) (api.Result, class) {
	if len(names) == 0 {
		return refused(api.ErrThere)
	}
	_, there, e := m.find(names)
	if e != api.OK {
		return refused(e)
	}
	if there {
		return refused(api.ErrThere)
	}
	files := m.files()
	if dir {
		if len(m.at)-len(files) >= m.c.Dirs {
			return refused(api.ErrRoom)
		}
		m.at[textOf(names)] = thing{dir: true}
		return api.Result{}, class{}
	}
	number := 0
	for ; files[number] != ""; number++ {
	}
	if number >= m.c.Files {
		return refused(api.ErrRoom)
	}
	m.at[textOf(names)] = thing{number: number}
	return api.Result{}, class{isMade, number}
}

func (m *model) use(op api.Op, names []string) (api.Result, class) {
	if len(names) == 0 {
		return refused(api.ErrIsDir)
	}
	x, there, e := m.find(names)
	switch {
	case e != api.OK:
		return refused(e)
	case !there:
		return refused(api.ErrAbsent)
	case x.dir:
		return refused(api.ErrIsDir)
	case op.Kind == api.OpWrite && op.At > m.c.MaxFile-len(op.Data), op.Kind == api.OpCut && op.N > m.c.MaxFile:
		return refused(api.ErrBig)
	}
	var r api.Result
	size := len(x.data)
	switch op.Kind {
	case api.OpRead:
		if op.At < size {
			r.N = min(op.N, size-op.At)
			r.Data = x.data[op.At : op.At+r.N]
		}
	case api.OpWrite:
		r.N = len(op.Data)
		if op.Data != "" {
			long := x.data + strings.Repeat("\x00", max(op.At+len(op.Data)-size, 0))
			x.data = long[:op.At] + op.Data + long[op.At+len(op.Data):]
		}
	case api.OpCut:
		x.data = (x.data + strings.Repeat("\x00", max(op.N-size, 0)))[:op.N]
	}
	m.at[textOf(names)] = x
	return r, class{isUse, x.number}
}

func (m *model) rename(names, to []string) (api.Result, class) {
	x, there, e := m.find(names)
	switch {
	case e != api.OK:
		return refused(e)
	case !there:
		return refused(api.ErrAbsent)
	case slices.Equal(names, to):
		return api.Result{}, class{}
	case x.dir && len(to) > len(names) && slices.Equal(names, to[:len(names)]):
		return refused(api.ErrLoop)
	case len(to) == 0:
		return refused(api.ErrThere)
	}
	y, over, e := m.find(to)
	switch {
	case e != api.OK:
		return refused(e)
	case over && y.dir:
		return refused(api.ErrThere)
	case over && x.dir:
		return refused(api.ErrNotDir)
	}
	var inside []string
	if x.dir {
		inside = m.inside(names)
	}
	for _, rest := range inside {
		if len(to)+1+strings.Count(rest, "/") > api.MaxDepth {
			return refused(api.ErrDepth)
		}
	}
	for _, rest := range inside {
		m.move(textOf(names)+"/"+rest, textOf(to)+"/"+rest)
	}
	m.move(textOf(names), textOf(to))
	if over {
		return api.Result{}, class{isEnd, y.number}
	}
	return api.Result{}, class{}
}

func (m *model) move(from, to string) {
	x := m.at[from]
	delete(m.at, from)
	m.at[to] = x
}

func (m *model) remove(names []string) (api.Result, class) {
	if len(names) == 0 {
		return refused(api.ErrIsDir)
	}
	x, there, e := m.find(names)
	switch {
	case e != api.OK:
		return refused(e)
	case !there:
		return refused(api.ErrAbsent)
	case x.dir:
		return refused(api.ErrIsDir)
	}
	delete(m.at, textOf(names))
	return api.Result{}, class{isEnd, x.number}
}

func (m *model) rmdir(names []string) (api.Result, class) {
	if len(names) == 0 {
		return refused(api.ErrArg)
	}
	x, there, e := m.find(names)
	switch {
	case e != api.OK:
		return refused(e)
	case !there:
		return refused(api.ErrAbsent)
	case !x.dir:
		return refused(api.ErrNotDir)
	case len(m.inside(names)) > 0:
		return refused(api.ErrFilled)
	}
	delete(m.at, textOf(names))
	return api.Result{}, class{}
}

func (m *model) list(names []string) (api.Result, class) {
	x, there, e := m.find(names)
	switch {
	case e != api.OK:
		return refused(e)
	case !there:
		return refused(api.ErrAbsent)
	case !x.dir:
		return refused(api.ErrNotDir)
	}
	var r api.Result
	for _, rest := range m.inside(names) {
		if !strings.Contains(rest, "/") {
			r.Names = append(r.Names, rest)
		}
	}
	return r, class{}
}

func (m *model) stat(names []string) (api.Result, class) {
	x, there, e := m.find(names)
	switch {
	case e != api.OK:
		return refused(e)
	case !there:
		return refused(api.ErrAbsent)
	case x.dir:
		return api.Result{Kind: api.IsDir}, class{}
	}
	return api.Result{Kind: api.IsFile, Size: len(x.data)}, class{}
}

// batch is the results of operations one behind the other.
func (m *model) batch(ops []api.Op) []api.Result {
	var results []api.Result
	for _, op := range ops {
		r, _ := m.do(op)
		results = append(results, r)
	}
	return results
}

// sizes is of each slot of a batch the size, behind it, of the file that its row holds then; 0 where it holds none.
func (m *model) sizes(ops []api.Op) []int {
	next, holds := m.copy(), slices.Repeat([]int{-1}, m.c.Slots)
	for i, op := range ops {
		_, is := next.do(op)
		switch earlier := slices.Index(holds, is.file); {
		case is.sort == isEnd && earlier >= 0:
			holds[earlier] = -1
		case is.sort == isMade || is.sort == isUse && earlier < 0:
			holds[i] = is.file
		}
	}
	sizes, files := make([]int, m.c.Slots), next.files()
	for i, file := range holds {
		if file >= 0 {
			sizes[i] = len(next.at[files[file]].data)
		}
	}
	return sizes
}

func sameResult(a, b api.Result) bool {
	return a.Code == b.Code && a.Data == b.Data && a.N == b.N && slices.Equal(a.Names, b.Names) && a.Kind == b.Kind && a.Size == b.Size
}

func sameResults(a, b []api.Result) bool { return slices.EqualFunc(a, b, sameResult) }

func sameAnswer(a, b api.Answer) bool { return a.Code == b.Code && sameResults(a.Results, b.Results) }
