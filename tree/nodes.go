package tree

import (
	"maps"
	"slices"

	"casket/api"
	"casket/path"
)

// The operations on nodes, whatever a file has in it.

func (s *state) mkdir(r request) (api.Result, api.Effect) {
	at, e := s.findFree(r.names)
	if e != api.OK {
		return refused(e)
	}
	number, ok := s.dirs.give(newDir(at.place))
	if !ok {
		return refused(api.ErrRoom)
	}
	s.hang(node{kind: api.IsDir, number: number}, at.place)
	return quiet(api.Result{})
}

func (s *state) create(r request) (api.Result, api.Effect) {
	at, e := s.findFree(r.names)
	if e != api.OK {
		return refused(e)
	}
	number, ok := s.files.give(file{place: at.place})
	if !ok {
		return refused(api.ErrRoom)
	}
	s.hang(node{kind: api.IsFile, number: number}, at.place)
	return api.Result{}, s.effect(api.EffMade, number)
}

func (s *state) rename(r request) (api.Result, api.Effect) {
	from, e := s.findSome(r.names)
	if e != api.OK {
		return refused(e)
	}
	if slices.Equal(r.names, r.to) {
		return quiet(api.Result{})
	}
	to, e := s.findTarget(r, from)
	if e != api.OK {
		return refused(e)
	}
	s.move(from, to.place)
	if to.kind == nothing {
		return quiet(api.Result{})
	}
	s.files.free(to.number)
	effect := s.effect(api.EffOver, from.number)
	effect.Gone = to.number
	return api.Result{}, effect
}

// findTarget is where what is renamed goes, if it can. A root needs no words of its own: one that moves has every other path
// in it, and one at the target is a directory there.
func (s *state) findTarget(r request, from spot) (spot, api.Errno) {
	isDir := from.kind == api.IsDir
	if isDir && path.Inside(r.names, r.to) {
		return spot{}, api.ErrLoop
	}
	to, e := s.find(r.to)
	switch {
	case e != api.OK:
		return spot{}, e
	case to.kind == api.IsDir:
		return spot{}, api.ErrThere
	case to.kind == api.IsFile && isDir:
		return spot{}, api.ErrNotDir
	case isDir && len(r.to)+s.height(from.number) > api.MaxDepth:
		return spot{}, api.ErrDepth
	}
	return to, api.OK
}

// move lays a node somewhere else; a file that lay there has its number yet, but no place.
func (s *state) move(from spot, to place) {
	s.unhang(from.place)
	s.hang(from.node, to)
	if from.kind == api.IsDir {
		d := s.dirs.get(from.number)
		d.place = to
		s.dirs.set(from.number, d)
		return
	}
	f := s.files.get(from.number)
	f.place = to
	s.files.set(from.number, f)
}

func (s *state) remove(r request) (api.Result, api.Effect) {
	at, e := s.findFile(r.names)
	if e != api.OK {
		return refused(e)
	}
	s.unhang(at.place)
	s.files.free(at.number)
	return api.Result{}, api.Effect{Kind: api.EffGone, File: at.number, Gone: -1}
}

func (s *state) rmdir(r request) (api.Result, api.Effect) {
	if len(r.names) == 0 {
		return refused(api.ErrArg)
	}
	at, e := s.findDir(r.names)
	if e != api.OK {
		return refused(e)
	}
	if len(s.inside(at.number)) > 0 {
		return refused(api.ErrFilled)
	}
	s.unhang(at.place)
	s.dirs.free(at.number)
	return quiet(api.Result{})
}

func (s *state) list(r request) (api.Result, api.Effect) {
	at, e := s.findDir(r.names)
	if e != api.OK {
		return refused(e)
	}
	return quiet(api.Result{Names: slices.Sorted(maps.Keys(s.inside(at.number)))})
}

func (s *state) stat(r request) (api.Result, api.Effect) {
	at, e := s.findSome(r.names)
	if e != api.OK {
		return refused(e)
	}
	if at.kind == api.IsDir {
		return quiet(api.Result{Kind: api.IsDir})
	}
	return quiet(api.Result{Kind: api.IsFile, Size: s.files.get(at.number).size})
}
