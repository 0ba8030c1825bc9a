package world

import "casket/api"

// state is all that a world has.
type state struct {
	store    store
	register api.Register
	power    power

	trace []api.Call
	ahead []*change // of each call of the trace: the store's last change ahead of its own work
	puts  []int     // of each put: its number in the trace

	plans   map[int][]api.Edit // by the number of the store call; those that were done are taken out
	planned int                // those that were done count
}

func newState() *state { return &state{store: newStore(), plans: map[int][]api.Edit{}} }

func (s *state) plan(e api.Edit) {
	s.plans[e.Before] = append(s.plans[e.Before], e)
	s.planned++
}

// beginStoreCall does what the adversary planned, and notes what the call finds.
func (s *state) beginStoreCall() {
	number := len(s.trace)
	for _, e := range s.plans[number] {
		s.edit(e)
	}
	delete(s.plans, number)
	s.ahead = append(s.ahead, s.store.last)
}

func (s *state) endStoreCall(c api.Call) {
	s.trace = append(s.trace, c)
	s.power.use()
}

// countPut notes that the call that is being done is a put.
func (s *state) countPut() { s.puts = append(s.puts, len(s.trace)) }

// put is what the put of that number put, and under which name.
func (s *state) put(number int) api.Blob {
	call := s.trace[s.puts[number]]
	return api.Blob{Name: call.Name, Blob: call.Blob}
}
