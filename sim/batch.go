package sim

import "casket/api"

// batch touches rows of the vault. From the first call on there is none, till all is through: whatever fails leaves it so.
func (s *simulator) batch(touches []api.Touch) reach {
	if s.vault == nil || len(touches) == 0 {
		return untouched
	}
	ahead := s.vault
	places, ok := s.draw(touches, ahead.names())
	if !ok {
		return untouched
	}
	s.vault = nil
	old := ahead.touched(touches)
	if e := s.fetch(api.KindData, old.rows); e != api.OK {
		s.stopUnlessDown(e)
		return untouched
	}
	blobs, behind := s.seal(places, touches, ahead.rows)
	how := s.put(blobs, untouched)
	if how == committed && s.remove(old.names()) {
		s.vault = behind
	}
	return how
}

// touched is what a batch puts anew: of the rows those that it touches, in the order of its touches, and all pages.
func (k *known) touched(touches []api.Touch) *known {
	rows := make([]api.Ref, len(touches))
	for i, t := range touches {
		rows[i] = k.rows[t.Object]
	}
	return &known{rows: rows, pages: k.pages}
}
