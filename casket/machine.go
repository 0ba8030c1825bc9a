package casket

import (
	"casket/api"
	"casket/index"
	"casket/seal"
	"casket/tape"
	"casket/vault"
	"casket/world"
)

// machine is what a machine has.
type machine struct {
	world  *world.World
	tape   *tape.Tape
	sealer seal.Sealer
	config api.Config
	vault  *vault.Vault // nil: there is none in memory
}

func load(p api.Play, blobs []api.Blob, r api.Register, table []api.Sealed) (*machine, api.Errno) {
	if e := index.Check(p.Config); e != api.OK {
		return nil, e
	}
	t, e := tape.New(p.Tape)
	if e != api.OK {
		return nil, e
	}
	s, e := sealerOf(p, table)
	if e != api.OK {
		return nil, e
	}
	w, e := world.Adopt(blobs, r)
	if e != api.OK {
		return nil, e
	}
	return &machine{world: w, tape: t, sealer: s, config: p.Config}, api.OK
}

func sealerOf(p api.Play, table []api.Sealed) (seal.Sealer, api.Errno) {
	if p.Ideal {
		return kept(seal.NewIdeal(table))
	}
	return kept(seal.NewReal(p.Master))
}

// kept is the sealer as an interface, which holds nothing where there is none: one that held a nil pointer would not be nil.
func kept[S seal.Sealer](s S, e api.Errno) (seal.Sealer, api.Errno) {
	if e != api.OK {
		return nil, e
	}
	return s, api.OK
}

// table is nothing of a real sealer: it has none.
func (m *machine) table() []api.Sealed {
	if ideal, isIdeal := m.sealer.(*seal.Ideal); isIdeal {
		return ideal.Table()
	}
	return nil
}

func (m *machine) look() api.View {
	return api.View{
		Alive:  m.vault.Code() == api.OK, // a nil vault's is not
		Down:   m.world.Down(),
		Left:   m.tape.Left(),
		Calls:  m.world.Calls(),
		Stored: len(m.world.Dump()),
	}
}
