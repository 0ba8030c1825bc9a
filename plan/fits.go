package plan

import (
	"slices"

	"casket/api"
	"casket/pool"
	"casket/tree"
)

// working is the tree and the table that the batch is done to, if the two states fit. They are made anew for the
// configuration: what was handed in may have been made for other numbers.
func working(c api.Config, t api.TreeState, p api.PoolState) (*tree.Tree, *pool.Pool, bool) {
	files, e := tree.Load(t, c.MaxFile)
	if e != api.OK || t.Files != c.Files || t.Dirs != c.Dirs {
		return nil, nil, false
	}
	table, e := pool.Load(p, c.Files, c.Slots)
	if e != api.OK || !slices.Equal(filesOf(t.Nodes), ownersOf(p.Objects)) {
		return nil, nil, false
	}
	return files, table, true
}

// filesOf is the numbers of the files, which rise in a tree's state.
func filesOf(nodes []api.Node) []int {
	var files []int
	for _, n := range nodes {
		if n.Kind == api.IsFile {
			files = append(files, n.Number)
		}
	}
	return files
}

// ownersOf is the numbers of the files that rows hold, rising.
func ownersOf(objects []api.Object) []int {
	var owners []int
	for _, o := range objects {
		if o.Owner != nobody {
			owners = append(owners, o.Owner)
		}
	}
	slices.Sort(owners)
	return owners
}
