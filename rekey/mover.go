package rekey

import (
	"casket/api"
	"casket/index"
	"casket/seal"
	"casket/tape"
	"casket/world"
)

// The sides, by their places. What is told of them outside is one more.
const (
	fromSide = iota
	toSide
	sideCount
)

// mover does the work of one call, with what the call was handed.
type mover struct {
	world  *world.World
	sides  [sideCount]seal.Sealer
	config api.Config
}

func newMover(w *world.World, from, to seal.Sealer, c api.Config) (mover, api.Errno) {
	m := mover{world: w, sides: [sideCount]seal.Sealer{fromSide: from, toSide: to}, config: c}
	if w == nil {
		return mover{}, api.ErrNil
	}
	for _, s := range m.sides {
		// A sealer that holds a nil pointer is not nil itself; that it asks for no coins tells it.
		if s == nil || s.Coins(0) == 0 {
			return mover{}, api.ErrNil
		}
	}
	return m, index.Check(c)
}

// rotate does nothing that can be seen in the world ahead of the last draw but to settle: so a tape that is too short leaves
// a vault that was taken up.
func (m mover) rotate(t *tape.Tape) api.Errno {
	side, st, e := m.settle()
	if e != api.OK || side == toSide+1 {
		return e
	}
	places, e := m.draw(t, st)
	if e != api.OK {
		return e
	}
	contents, e := m.contents(st)
	if e != api.OK {
		return e
	}
	next, e := m.seal(st, places, contents)
	if e != api.OK {
		return e
	}
	if e := m.put(next); e != api.OK {
		return e
	}
	return m.remove(namesOf(st))
}

// tampered stops the vault for good.
func (m mover) tampered() api.Errno {
	if e := m.world.Stop(); e != api.OK {
		return e
	}
	return api.ErrTampered
}

// get is the blob of a name, "" where there is none: neither has a tag, and nothing counts here but by its tag.
func (m mover) get(name string) (string, api.Errno) {
	blob, e := m.world.Get(name)
	if e == api.ErrNone {
		return "", api.OK
	}
	return blob, e
}

// namesOf is the names of the rows and of the pages.
func namesOf(st api.State) []string {
	names := make([]string, 0, len(st.Pool.Objects)+len(st.Root.Pages))
	for _, o := range st.Pool.Objects {
		names = append(names, o.Name)
	}
	for _, p := range st.Root.Pages {
		names = append(names, p.Name)
	}
	return names
}
