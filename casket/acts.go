package casket

import (
	"casket/api"
	"casket/vault"
)

const maxBefore = 1 << 40

// acts is what each kind of act does.
func acts() map[int]func(*machine, api.Act) api.Answer {
	return map[int]func(*machine, api.Act) api.Answer{
		api.ActFormat:  (*machine).format,
		api.ActRecover: (*machine).takeUp,
		api.ActBatch:   (*machine).batch,
		api.ActFuse:    (*machine).fuse,
		api.ActPower:   (*machine).power,
		api.ActEdit:    (*machine).edit,
	}
}

func (m *machine) do(a api.Act) api.Answer {
	does, isAct := acts()[a.Kind]
	if !isAct {
		return coded(api.ErrStep)
	}
	return does(m, a)
}

// coded is the answer of an act that has no results.
func coded(e api.Errno) api.Answer { return api.Answer{Code: e} }

// format leaves the vault that is in memory: where there is one, there is one in the store, too, and nothing is made.
func (m *machine) format(api.Act) api.Answer {
	return coded(vault.Format(m.world, m.tape, m.sealer, m.config))
}

func (m *machine) takeUp(api.Act) api.Answer {
	v, e := vault.Recover(m.world, m.tape, m.sealer, m.config)
	m.vault = v // nil with an error
	return coded(e)
}

func (m *machine) batch(a api.Act) api.Answer {
	if m.vault == nil {
		return coded(api.ErrDead)
	}
	results, e := m.vault.Batch(a.Ops...)
	return api.Answer{Code: e, Results: results}
}

func (m *machine) fuse(a api.Act) api.Answer { return coded(m.world.Arm(a.I)) }

func (m *machine) power(api.Act) api.Answer {
	m.world.Power()
	m.vault = nil
	return coded(api.OK)
}

// edit looks at Before ahead of adding to it: the sum might be more than an int holds.
func (m *machine) edit(a api.Act) api.Answer {
	e := a.Edit
	if e.Before < 0 || e.Before > maxBefore {
		return coded(api.ErrEdit)
	}
	e.Before += m.world.Calls()
	return coded(m.world.Plan(e))
}
