package archive

import (
	"iter"
	"slices"
	"strings"

	"casket/api"
)

// node is what was found in a vault: an entry that has no Data yet, and how much it is to have.
type node struct {
	api.Entry
	size int
}

func (n node) length() int { return lengthOfEntry(n.Entry, n.size) }

// found is all that is in the vault, by rising paths.
func (h hand) found() ([]node, api.Errno) {
	var all []node
	for level, e := range h.levels() {
		if e != api.OK {
			return nil, e
		}
		all = append(all, level...)
	}
	// A level rises by itself, but what lies in a directory stands among what the directory stands among.
	slices.SortFunc(all, func(a, b node) int { return strings.Compare(a.Path, b.Path) })
	return all, api.OK
}

// levels is the walk from the root on: what lies in the directories of one level is the next. An error is its end.
func (h hand) levels() iter.Seq2[[]node, api.Errno] {
	return func(yield func([]node, api.Errno) bool) {
		directories := []string{root}
		for len(directories) > 0 {
			level, e := h.level(directories)
			if !yield(level, e) || e != api.OK {
				return
			}
			directories = directoriesOf(level)
		}
	}
}

func (h hand) level(directories []string) ([]node, api.Errno) {
	paths, e := h.listed(directories)
	if e != api.OK {
		return nil, e
	}
	return h.looked(paths)
}

// listed is the paths of all that lies in directories, rising.
func (h hand) listed(directories []string) ([]string, api.Errno) {
	results, e := h.results(opsOf(directories, listing))
	if e != api.OK {
		return nil, e
	}
	var paths []string
	for i, r := range results {
		for _, name := range r.Names {
			paths = append(paths, below(directories[i], name))
		}
	}
	slices.Sort(paths)
	return paths, api.OK
}

// looked is what is at each path.
func (h hand) looked(paths []string) ([]node, api.Errno) {
	results, e := h.results(opsOf(paths, looking))
	if e != api.OK {
		return nil, e
	}
	var nodes []node
	for i, r := range results {
		nodes = append(nodes, node{Entry: api.Entry{Path: paths[i], Kind: r.Kind}, size: r.Size})
	}
	return nodes, api.OK
}

// withData is what was found, as entries with what they hold.
func (h hand) withData(nodes []node) ([]api.Entry, api.Errno) {
	results, e := h.results(opsOf(nodes, reading))
	if e != api.OK {
		return nil, e
	}
	var entries []api.Entry
	for _, n := range nodes {
		if n.size != 0 {
			n.Data, results = results[0].Data, results[1:]
		}
		entries = append(entries, n.Entry)
	}
	return entries, api.OK
}

func directoriesOf(level []node) []string {
	var paths []string
	for _, n := range level {
		if n.Kind == api.IsDir {
			paths = append(paths, n.Path)
		}
	}
	return paths
}

func listing(directory string) []api.Op {
	return []api.Op{{Kind: api.OpList, Path: directory}}
}

func looking(path string) []api.Op {
	return []api.Op{{Kind: api.OpStat, Path: path}}
}

// reading is nothing where there is nothing to read: of a directory, too, whose size is 0.
func reading(n node) []api.Op {
	if n.size == 0 {
		return nil
	}
	return []api.Op{{Kind: api.OpRead, Path: n.Path, N: n.size}}
}
