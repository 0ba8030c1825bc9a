package pool

import "slices"

// ring is a queue of numbers, first in, first out. What was taken out leaves room that is used again.
type ring[N ~int] struct {
	room  []N
	head  int // where the first lies in the room; the others lie behind it, round the room's end
	count int
}

func (r *ring[N]) push(n N) {
	if r.count == len(r.room) {
		r.grow()
	}
	r.room[(r.head+r.count)%len(r.room)] = n
	r.count++
}

// pop takes the first out, if there is one.
func (r *ring[N]) pop() (N, bool) {
	if r.count == 0 {
		return 0, false
	}
	n := r.room[r.head]
	r.head = (r.head + 1) % len(r.room)
	r.count--
	return n, true
}

// grow doubles the room, so that many pushes move each number but a few times.
func (r *ring[N]) grow() {
	r.room, r.head = append(r.list(), make([]N, len(r.room)+1)...), 0
}

// list is what is queued, the first ahead, in memory of its own.
func (r *ring[N]) list() []N {
	ahead := r.room[r.head:min(r.head+r.count, len(r.room))]
	return slices.Concat(ahead, r.room[:r.count-len(ahead)])
}

func (r *ring[N]) copy() ring[N] { return ring[N]{room: r.list(), count: r.count} }
