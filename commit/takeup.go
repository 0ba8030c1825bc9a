package commit

import (
	"casket/api"
	"casket/index"
	"casket/pool"
	"casket/seal"
	"casket/tree"
)

// takeUp is the state that counts. What was cut off is settled by it, and what belongs to no state is swept.
func (k keeper) takeUp() api.State {
	r := k.load()
	if r.Current == "" && r.Pending == "" {
		giveUp(api.ErrBlank)
	}
	root, isNew := k.rootOf(r)
	st := k.stateOf(r, root)
	if isNew {
		done(k.world.Commit())
	} else if r.Pending != "" {
		done(k.world.Forget())
	}
	k.sweep(st)
	return st
}

// refused: where no vault ever counted, there is none to be tampered with.
func (k keeper) refused(r api.Register) {
	if r.Current == "" {
		giveUp(api.ErrBlank)
	}
	k.tampered()
}

// rootOf is the root in the store, and whether it is the new one.
func (k keeper) rootOf(r api.Register) (api.Root, bool) {
	blob, there := k.get(api.RootName)
	tag := seal.Tag(blob)
	isNew := tag == r.Pending
	// A blob that is too short for a tag has "", as has a register without one: the two are not the same for that.
	if !there || tag == "" || !isNew && tag != r.Current {
		k.refused(r)
	}
	body, ok := k.open(api.KindRoot, api.RootName, blob)
	if !ok {
		k.refused(r)
	}
	root, e := index.DecodeRoot(k.config, body)
	if e == api.ErrConfig {
		giveUp(api.ErrConfig)
	}
	if e != api.OK {
		k.refused(r)
	}
	return root, isNew
}

func (k keeper) stateOf(r api.Register, root api.Root) api.State {
	var bodies []string
	for _, page := range root.Pages {
		body, ok := k.fetch(api.KindPage, page)
		if !ok {
			k.refused(r)
		}
		bodies = append(bodies, body)
	}
	st, ok := k.decode(bodies, root)
	if !ok {
		k.refused(r)
	}
	return st
}

func (k keeper) decode(bodies []string, root api.Root) (api.State, bool) {
	c := k.config
	files, table, e := index.Decode(c, bodies)
	if e != api.OK {
		return api.State{}, false
	}
	if _, e := tree.Load(files, c.MaxFile); e != api.OK {
		return api.State{}, false
	}
	if _, e := pool.Load(table, c.Files, c.Slots); e != api.OK {
		return api.State{}, false
	}
	return api.State{Tree: files, Pool: table, Root: root}, true
}

// sweep takes away what a call that was cut off has left, and what another hand has added. Whether all is there is asked
// ahead of that.
func (k keeper) sweep(st api.State) {
	listed := must(k.world.List())
	there := setOf(listed)
	own := setOf(append(namesOf(st), api.RootName))
	for name := range own {
		if !there.has(name) {
			k.tampered()
		}
	}
	var others []string
	for _, name := range listed {
		if !own.has(name) {
			others = append(others, name)
		}
	}
	k.remove(others)
}

// namesOf is the names of the rows and of the pages.
func namesOf(st api.State) []string {
	var names []string
	for _, o := range st.Pool.Objects {
		names = append(names, o.Name)
	}
	for _, p := range st.Root.Pages {
		names = append(names, p.Name)
	}
	return names
}
