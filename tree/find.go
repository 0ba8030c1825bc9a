package tree

import "casket/api"

// spot is where a path leads, and what lies there. The root's place is the zero one, which no node has.
type spot struct {
	place
	node
}

// find goes from the root on, name by name.
func (s *state) find(names []string) (spot, api.Errno) {
	at := spot{node: node{kind: api.IsDir, number: rootNumber}}
	for _, name := range names {
		switch at.kind {
		case nothing:
			return spot{}, api.ErrAbsent
		case api.IsFile:
			return spot{}, api.ErrNotDir
		}
		next := place{parent: at.number, name: name}
		at = spot{place: next, node: s.inside(next.parent)[name]}
	}
	return at, api.OK
}

// findSome is where something is.
func (s *state) findSome(names []string) (spot, api.Errno) {
	at, e := s.find(names)
	if e == api.OK && at.kind == nothing {
		return spot{}, api.ErrAbsent
	}
	return at, e
}

// findFile is where a file is. The root needs no words of its own: it is a directory.
func (s *state) findFile(names []string) (spot, api.Errno) {
	at, e := s.findSome(names)
	if e == api.OK && at.kind == api.IsDir {
		return spot{}, api.ErrIsDir
	}
	return at, e
}

// findDir is where a directory is.
func (s *state) findDir(names []string) (spot, api.Errno) {
	at, e := s.findSome(names)
	if e == api.OK && at.kind == api.IsFile {
		return spot{}, api.ErrNotDir
	}
	return at, e
}

// findFree is where nothing is. The root needs no words of its own: it is there.
func (s *state) findFree(names []string) (spot, api.Errno) {
	at, e := s.find(names)
	if e == api.OK && at.kind != nothing {
		return spot{}, api.ErrThere
	}
	return at, e
}

// height is how many names the deepest node in a directory has behind it; 0, if none lies in it.
func (s *state) height(number int) int {
	most := 0
	for _, n := range s.inside(number) {
		names := 1
		if n.kind == api.IsDir {
			names += s.height(n.number)
		}
		most = max(most, names)
	}
	return most
}
