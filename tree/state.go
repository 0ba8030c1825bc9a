package tree

import (
	"maps"

	"casket/api"
)

const (
	rootNumber = 0
	nothing    = 0 // beside the kinds api.IsDir and api.IsFile
)

// place is where a node lies.
type place struct {
	parent int
	name   string
}

// node is what lies somewhere: a directory or a file, by its number, or nothing.
type node struct {
	kind, number int
}

// dir is a directory. What lies in it is kept with it, so that only what an operation speaks of is gone through.
type dir struct {
	place
	inside map[string]node
}

type file struct {
	place
	size int
}

// state is all that a tree has. The root is the directory that has the number 0, which is never free.
type state struct {
	dirs  numbers[dir]
	files numbers[file]
	most  int
}

func newState(files, dirs, most int) *state {
	s := &state{dirs: numbers[dir]{room: dirs + 1}, files: numbers[file]{room: files}, most: most}
	s.dirs.claim(rootNumber, newDir(place{}))
	return s
}

func newDir(at place) dir { return dir{place: at, inside: map[string]node{}} }

func (s *state) copy() *state {
	other := &state{dirs: s.dirs.copy(), files: s.files.copy(), most: s.most}
	for number, d := range s.dirs.all() {
		d.inside = maps.Clone(d.inside)
		other.dirs.set(number, d)
	}
	return other
}

func (s *state) inside(number int) map[string]node { return s.dirs.get(number).inside }

// hang lays a node somewhere, and knows nothing of where it lay before.
func (s *state) hang(n node, at place) { s.inside(at.parent)[at.name] = n }

func (s *state) unhang(at place) { delete(s.inside(at.parent), at.name) }

// told is the state as data.
func (s *state) told() api.TreeState {
	var nodes []api.Node
	for number, d := range s.dirs.all() {
		if number != rootNumber {
			nodes = append(nodes, api.Node{Kind: api.IsDir, Number: number, Parent: d.parent, Name: d.name})
		}
	}
	for number, f := range s.files.all() {
		nodes = append(nodes, api.Node{Kind: api.IsFile, Number: number, Parent: f.parent, Name: f.name, Size: f.size})
	}
	return api.TreeState{Files: s.files.room, Dirs: s.dirs.room - 1, Nodes: nodes}
}
