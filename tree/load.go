package tree

import (
	"cmp"
	"slices"
	"strings"

	"casket/api"
	"casket/path"
)

// fill takes the nodes of a state into a tree without nodes, and tells whether they are those of a tree. All have their
// numbers ahead of being laid into their parents, since a parent may stand behind what lies in it.
func (s *state) fill(nodes []api.Node) bool {
	if !slices.IsSortedFunc(nodes, byKindAndNumber) {
		return false
	}
	for _, n := range nodes {
		if !s.enter(n) {
			return false
		}
	}
	for number, d := range s.dirs.all() {
		if number != rootNumber && !s.settle(node{kind: api.IsDir, number: number}, d.place) {
			return false
		}
	}
	for number, f := range s.files.all() {
		if !s.settle(node{kind: api.IsFile, number: number}, f.place) {
			return false
		}
	}
	return true
}

func byKindAndNumber(a, b api.Node) int {
	return cmp.Or(cmp.Compare(a.Kind, b.Kind), cmp.Compare(a.Number, b.Number))
}

// enter gives a node its number, if that is free and what the node says by itself may be. Its name is copied, so that no
// greater text is kept with it.
func (s *state) enter(n api.Node) bool {
	if path.Name(n.Name) != api.OK {
		return false
	}
	at := place{parent: n.Parent, name: strings.Clone(n.Name)}
	switch n.Kind {
	case api.IsDir:
		return n.Size == 0 && s.dirs.claim(n.Number, newDir(at))
	case api.IsFile:
		return n.Size >= 0 && n.Size <= s.most && s.files.claim(n.Number, file{place: at, size: n.Size})
	}
	return false
}

// settle lays a node into its parent, if that lies in the root and has no other of this name.
func (s *state) settle(n node, at place) bool {
	if !s.isRooted(at) || s.inside(at.parent)[at.name].kind != nothing {
		return false
	}
	s.hang(n, at)
	return true
}

// isRooted tells whether a place lies in the root, with no more names than may be. It gives up there: the names of
// directories that lie in one another in a ring never end.
func (s *state) isRooted(at place) bool {
	for range api.MaxDepth {
		if at.parent == rootNumber {
			return true
		}
		if !s.dirs.has(at.parent) {
			return false
		}
		at = s.dirs.get(at.parent).place
	}
	return false
}
