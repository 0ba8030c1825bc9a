package rekey

import (
	"casket/api"
	"casket/commit"
	"casket/seal"
)

// settle takes the vault up under the sealer that its root is of: under the other one it would be stopped for good. It tells
// the side's number and the state.
func (m mover) settle() (int, api.State, api.Errno) {
	r, e := m.world.Load()
	if e != api.OK {
		return 0, api.State{}, e
	}
	if r.Stopped {
		return 0, api.State{}, api.ErrTampered
	}
	if r.Current == "" && r.Pending == "" {
		return 0, api.State{}, api.ErrBlank
	}
	side, e := m.side(r)
	if e != api.OK {
		return 0, api.State{}, e
	}
	st, e := commit.Recover(m.world, m.sides[side], m.config)
	if e != api.OK {
		return 0, api.State{}, e
	}
	return side + 1, st, api.OK
}

// side is the place of the sealer that the root is of. Where nothing tells it, from is to find out what is wrong.
func (m mover) side(r api.Register) (int, api.Errno) {
	root, e := m.get(api.RootName)
	if e != api.OK {
		return 0, e
	}
	if !isOf(r, seal.Tag(root)) {
		return fromSide, api.OK
	}
	for side, s := range m.sides { // a root that both open is from's: it is tried first
		if _, e := s.Open(api.KindRoot, api.RootName, root); e == api.OK {
			return side, api.OK
		}
	}
	return fromSide, api.OK
}

// isOf: a blob that is too short for a tag has "", as has a register without one: the two are not the same for that.
func isOf(r api.Register, tag string) bool {
	return tag != "" && (tag == r.Pending || tag == r.Current)
}
