package world

import (
	"slices"

	"casket/api"
)

// store is what lies there, and the change that made it so.
type store struct {
	objects map[string]api.Blob
	last    *change
}

// change is one of the steps by which a store came to what it holds. Each knows the one ahead of it and is never altered:
// so a pointer to a change says all that a store held behind it, whatever is done later, and an old store can be told at
// any time without a copy of it for each call.
type change struct {
	object api.Blob
	gone   bool
	ahead  *change
}

func newStore() store { return store{objects: map[string]api.Blob{}} }

func (s *store) object(name string) (api.Blob, bool) {
	object, there := s.objects[name]
	return object, there
}

func (s *store) lay(object api.Blob) { s.apply(&change{object: object, ahead: s.last}) }

func (s *store) drop(name string) {
	if _, there := s.object(name); there {
		s.apply(&change{object: api.Blob{Name: name}, gone: true, ahead: s.last})
	}
}

func (s *store) apply(c *change) {
	if c.gone {
		delete(s.objects, c.object.Name)
	} else {
		s.objects[c.object.Name] = c.object
	}
	s.last = c
}

// restore brings back what the store held behind that change; behind none at all it held nothing.
func (s *store) restore(last *change) {
	var changes []*change
	for c := last; c != nil; c = c.ahead {
		changes = append(changes, c)
	}
	clear(s.objects)
	s.last = nil
	for _, c := range slices.Backward(changes) {
		s.apply(c)
	}
}

// names are rising.
func (s *store) names() []string {
	var names []string
	for name := range s.objects {
		names = append(names, name)
	}
	slices.Sort(names)
	return names
}
