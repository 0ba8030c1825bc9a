package commit

import (
	"casket/api"
	"casket/exec"
	"casket/index"
	"casket/plan"
	"casket/pool"
	"casket/tape"
	"casket/tree"
)

// batch is the state behind the batch, and its results. Nothing is called ahead of the last draw: so a batch that is refused
// up to then has left the world as it was.
func (k keeper) batch(t *tape.Tape, st api.State, ops []api.Op) (api.State, []api.Result) {
	p, files, table := k.plan(st, ops)
	var rows, buckets []int
	for _, s := range p.Slots {
		rows, buckets = append(rows, s.Object), append(buckets, s.Bucket)
	}
	l := k.draw(t, namesOf(st), buckets)
	out := must(exec.Apply(p, k.contents(st, p.Slots)))
	next := k.seal(l, rows, out.Contents, files, table)
	k.put(next)
	k.remove(replaced(st, rows))
	return next.state, out.Results
}

// plan is the batch's plan, and the tree and the table behind it.
func (k keeper) plan(st api.State, ops []api.Op) (api.Plan, *tree.Tree, *pool.Pool) {
	c := k.config
	must(index.Encode(c, st.Tree, st.Pool))
	must(index.EncodeRoot(c, st.Root))
	files := must(tree.Load(st.Tree, c.MaxFile))
	table := must(pool.Load(st.Pool, c.Files, c.Slots))
	p, files, table, e := plan.Make(c, files, table, ops)
	done(e)
	return p, files, table
}

// contents is what the slots' objects hold. Each is looked at ahead of the next Get: behind what is found out nothing more
// is asked of the store.
func (k keeper) contents(st api.State, slots []api.Slot) []string {
	sizes := make(map[int]int)
	for _, n := range st.Tree.Nodes {
		if n.Kind == api.IsFile {
			sizes[n.Number] = n.Size
		}
	}
	var contents []string
	for _, s := range slots {
		o := st.Pool.Objects[s.Object]
		body, ok := k.fetch(api.KindData, api.Ref{Name: o.Name, Tag: o.Tag})
		if !ok || len(body) != sizes[s.Was] { // no file has a dummy's number: so its size is 0
			k.tampered()
		}
		contents = append(contents, body)
	}
	return contents
}

// replaced is the names of what a batch has put anew: of these rows, and of all pages.
func replaced(st api.State, rows []int) []string {
	var names []string
	for _, row := range rows {
		names = append(names, st.Pool.Objects[row].Name)
	}
	for _, p := range st.Root.Pages {
		names = append(names, p.Name)
	}
	return names
}
