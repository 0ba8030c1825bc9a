package pool

import "casket/api"

// fill takes the rows and the queue of a state into a table whose rows are all out, and tells whether they are those of a
// settled pool.
func (s *state) fill(from api.PoolState) bool {
	if len(from.Objects) != len(s.rows) {
		return false
	}
	for i, o := range from.Objects {
		if !s.mayLie(i, o) {
			return false
		}
		s.put(i, owned(o))
	}
	for _, i := range from.Queue {
		if i < 0 || i >= len(s.rows) || !s.rows[i].isOut() {
			return false
		}
		s.push(i)
	}
	return s.isSettled()
}

// mayLie tells whether an object may be a row behind those that were laid in ahead of it.
func (s *state) mayLie(i int, o api.Object) bool {
	isOwner := o.Owner == nobody || s.isFile(o.Owner) && !s.isHeld(o.Owner)
	return isOwner && isStored(o) && !s.isNameOfOther(o.Name, i)
}

// isSettled: what is queued is dummies, each once, so that their number tells whether they are all of them.
func (s *state) isSettled() bool { return s.queue.count == len(s.rows)-len(s.owners) }
