package leak

import (
	"casket/api"
	"casket/plan"
	"casket/pool"
	"casket/tree"
)

// state is a tree and a table that fit the configuration, or neither: then it is missing. Nothing is ever done to the two,
// as plan answers others, so that a state may be the candidate, open and the one that counts without a copy.
type state struct {
	files *tree.Tree
	table *pool.Pool
}

// newState is of a configuration that may be: so New refuses none of its numbers.
func newState(c api.Config) state {
	files, _ := tree.New(c.Files, c.Dirs, c.MaxFile)
	table, _ := pool.New(c.Files, c.Slots)
	return state{files: files, table: table}
}

func (s state) isMissing() bool { return s == state{} }

// batch is the touches of a batch and the state behind it. Both are missing where this state is, and where there are more
// operations than slots: just then plan refuses.
func (s state) batch(c api.Config, ops []api.Op) ([]api.Touch, state) {
	p, files, table, e := plan.Make(c, s.files, s.table, ops)
	if e != api.OK {
		return nil, state{}
	}
	touches := make([]api.Touch, len(p.Slots))
	for i, slot := range p.Slots {
		touches[i] = api.Touch{Object: slot.Object, Bucket: slot.Bucket}
	}
	return touches, state{files: files, table: table}
}
