package commit

import (
	"slices"

	"casket/api"
	"casket/frame"
	"casket/pool"
	"casket/tape"
	"casket/tree"
)

func (k keeper) format(t *tape.Tape) {
	r := k.load()
	if r.Current != "" {
		giveUp(api.ErrVault)
	}
	c := k.config
	files, table := must(tree.New(c.Files, c.Dirs, c.MaxFile)), must(pool.New(c.Files, c.Slots))
	rows := table.State().Queue // all of them, in their order: a new table has nothing but dummies
	l := k.draw(t, nil, slices.Repeat([]int{must(frame.Size(0, c.Least))}, len(rows)))
	if r.Pending != "" {
		done(k.world.Forget())
	}
	k.remove(must(k.world.List()))
	k.put(k.seal(l, rows, make([]string, len(rows)), files, table))
}
