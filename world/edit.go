package world

import "casket/api"

// isEdit looks at the fields that the kind looks at, at no others.
func isEdit(e api.Edit) bool {
	switch e.Kind {
	case api.EditSet:
		return e.Put >= 0 && isBlob(e.Blob)
	case api.EditDrop:
		return e.Put >= 0
	case api.EditSwap, api.EditReplay:
		return e.Put >= 0 && e.From >= 0
	case api.EditRestore:
		return e.From >= 0
	case api.EditAdd:
		return isName(e.Name) && isBlob(e.Blob)
	}
	return false
}

// edit does what was planned; what speaks of a put or a call that was not done yet has no effect.
func (s *state) edit(e api.Edit) {
	switch e.Kind {
	case api.EditRestore:
		if e.From < len(s.trace) {
			s.store.restore(s.ahead[e.From])
		}
	case api.EditAdd:
		s.store.lay(api.Blob{Name: e.Name, Blob: e.Blob})
	case api.EditSet, api.EditDrop:
		if e.Put < len(s.puts) {
			s.editOne(e)
		}
	case api.EditSwap, api.EditReplay:
		if e.Put < len(s.puts) && e.From < len(s.puts) {
			s.editTwo(e)
		}
	}
}

func (s *state) editOne(e api.Edit) {
	name := s.put(e.Put).Name
	if e.Kind == api.EditDrop {
		s.store.drop(name)
		return
	}
	s.store.lay(api.Blob{Name: name, Blob: e.Blob})
}

func (s *state) editTwo(e api.Edit) {
	name, from := s.put(e.Put).Name, s.put(e.From)
	if e.Kind == api.EditSwap {
		s.swap(name, from.Name)
		return
	}
	s.store.lay(api.Blob{Name: name, Blob: from.Blob})
}

// swap looks at both objects ahead of changing either.
func (s *state) swap(one, other string) {
	atOne, oneThere := s.store.object(one)
	atOther, otherThere := s.store.object(other)
	s.replace(one, atOther.Blob, otherThere)
	s.replace(other, atOne.Blob, oneThere)
}

func (s *state) replace(name, blob string, there bool) {
	if !there {
		s.store.drop(name)
		return
	}
	s.store.lay(api.Blob{Name: name, Blob: blob})
}
