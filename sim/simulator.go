package sim

import (
	"casket/api"
	"casket/frame"
	"casket/index"
	"casket/seal"
	"casket/tape"
	"casket/world"
)

const (
	maxBucket = api.MaxBlob - seal.Overhead
	maxBefore = 1 << 40
)

// simulator is what a simulator has. Its world is embedded: the world's calls are its own.
type simulator struct {
	*world.World
	tape   *tape.Tape
	sealer *seal.Ideal
	config api.Config
	pages  int               // how many there are
	least  int               // the bucket of an empty content
	roots  map[string]*known // what lay behind each root that was sealed, by the root's tag
	vault  *known            // nil: there is none that is alive
}

// known is the names and tags of all rows and pages of a state. It is never altered: roots and the vault have it in common.
type known struct {
	rows, pages []api.Ref
}

func newSimulator(c api.Config, bytes string) (*simulator, api.Errno) {
	if e := index.Check(c); e != api.OK {
		return nil, e
	}
	t, e := tape.New(bytes)
	if e != api.OK {
		return nil, e
	}
	s := &simulator{World: world.New(), tape: t, config: c, roots: map[string]*known{}}
	// None of these refuses what Check has taken.
	s.sealer, _ = seal.NewIdeal(nil)
	s.pages, _ = index.Pages(c)
	s.least, _ = frame.Size(0, c.Least)
	return s, api.OK
}

func (s *simulator) rowCount() int { return s.config.Files + s.config.Slots }

// takes tells whether the hint may be, whatever the simulator would do with it now.
func (s *simulator) takes(h api.Hint) bool {
	if h.Kind != api.ActBatch || len(h.Touches) == 0 {
		return true
	}
	if len(h.Touches) != s.config.Slots {
		return false
	}
	rows := set[int]{}
	for _, t := range h.Touches {
		isRow := t.Object >= 0 && t.Object < s.rowCount()
		isBucket := t.Bucket >= s.least && t.Bucket <= maxBucket
		if !isRow || !isBucket || !rows.add(t.Object) {
			return false
		}
	}
	return true
}

// act does what the hint says. Whether a fuse or an edit is refused changes nothing in the trace: so nobody is told.
func (s *simulator) act(h api.Hint) reach {
	switch h.Kind {
	case api.ActFormat:
		return s.format()
	case api.ActRecover:
		return s.takeUp()
	case api.ActBatch:
		return s.batch(h.Touches)
	case api.ActFuse:
		s.Arm(h.I)
	case api.ActPower:
		s.Power()
		s.vault = nil
	case api.ActEdit:
		s.planFromNow(h.Edit)
	}
	return untouched
}

// planFromNow looks at Before ahead of adding to it: the sum might be more than an int holds.
func (s *simulator) planFromNow(e api.Edit) {
	if e.Before < 0 || e.Before > maxBefore {
		return
	}
	e.Before += s.Calls()
	s.Plan(e)
}

func (k *known) names() []string {
	names := make([]string, 0, len(k.rows)+len(k.pages))
	for _, refs := range [][]api.Ref{k.rows, k.pages} {
		for _, ref := range refs {
			names = append(names, ref.Name)
		}
	}
	return names
}
