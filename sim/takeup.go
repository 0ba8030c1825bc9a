package sim

import (
	"casket/api"
	"casket/seal"
)

// takeUp leaves a vault only where it comes to its end.
func (s *simulator) takeUp() reach {
	s.vault = nil
	r, e := s.Load()
	if e != api.OK || r.Stopped || r.Current == "" && r.Pending == "" {
		return untouched
	}
	tag, e := s.rootOf(r)
	if e == api.OK {
		e = s.fetch(api.KindPage, s.roots[tag].pages)
	}
	if e != api.OK {
		s.refused(r, e)
		return untouched
	}
	how := s.settle(r, tag)
	if how != untouched && s.sweep(s.roots[tag]) {
		s.vault = s.roots[tag]
	}
	return how
}

// rootOf is the tag of the root in the store, if it is one of the register's.
func (s *simulator) rootOf(r api.Register) (string, api.Errno) {
	blob, e := s.Get(api.RootName)
	if e != api.OK {
		return "", e
	}
	tag := seal.Tag(blob)
	// A blob that is too short for a tag has "", as has a register without one: the two are not the same for that.
	if tag == "" || tag != r.Pending && tag != r.Current {
		return "", api.ErrSealed
	}
	return tag, s.opens(api.KindRoot, api.Ref{Name: api.RootName, Tag: tag}, blob)
}

// refused: where no vault ever counted, there is none to be tampered with.
func (s *simulator) refused(r api.Register, e api.Errno) {
	if r.Current != "" {
		s.stopUnlessDown(e)
	}
}

// settle makes the register say that the root of this tag counts; untouched: the power failed.
func (s *simulator) settle(r api.Register, tag string) reach {
	if tag == r.Pending {
		if s.Commit() != api.OK {
			return untouched
		}
		return committed
	}
	if r.Pending != "" && s.Forget() != api.OK {
		return untouched
	}
	return cleared
}

// sweep takes away what belongs to no state. Whether all is there is asked ahead of that.
func (s *simulator) sweep(k *known) bool {
	listed, e := s.List()
	if e != api.OK {
		return false
	}
	own, there := append(k.names(), api.RootName), setOf(listed)
	for _, name := range own {
		if !there.has(name) {
			s.Stop()
			return false
		}
	}
	return s.remove(others(listed, setOf(own)))
}

// others is the names that are not among own, in their order.
func others(names []string, own set[string]) []string {
	var rest []string
	for _, name := range names {
		if !own.has(name) {
			rest = append(rest, name)
		}
	}
	return rest
}
