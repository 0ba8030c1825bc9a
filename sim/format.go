package sim

import "casket/api"

// format leaves the vault as it is: where there is one, the register has a current tag, and nothing is done.
func (s *simulator) format() reach {
	r, e := s.Load()
	if e != api.OK || r.Stopped || r.Current != "" {
		return untouched
	}
	touches := s.allRows()
	places, ok := s.draw(touches, nil)
	if !ok {
		return untouched
	}
	if r.Pending != "" && s.Forget() != api.OK {
		return untouched
	}
	listed, e := s.List()
	if e != api.OK || !s.remove(listed) {
		return cleared
	}
	blobs, _ := s.seal(places, touches, make([]api.Ref, s.rowCount()))
	return s.put(blobs, cleared)
}

// allRows is what a Format puts, as touches: every row, with an empty content.
func (s *simulator) allRows() []api.Touch {
	touches := make([]api.Touch, s.rowCount())
	for i := range touches {
		touches[i] = api.Touch{Object: i, Bucket: s.least}
	}
	return touches
}
