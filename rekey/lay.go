package rekey

import (
	"slices"

	"casket/api"
	"casket/frame"
	"casket/index"
	"casket/seal"
)

// contents is what the rows' objects hold. Each is looked at ahead of the next Get: behind what is found out nothing more is
// asked of the store.
func (m mover) contents(st api.State) ([]string, api.Errno) {
	sizes := make(map[int]int)
	for _, n := range st.Tree.Nodes {
		if n.Kind == api.IsFile {
			sizes[n.Number] = n.Size
		}
	}
	contents := make([]string, 0, len(st.Pool.Objects))
	for _, o := range st.Pool.Objects {
		blob, e := m.get(o.Name)
		if e != api.OK {
			return nil, e
		}
		body, ok := m.open(o, blob)
		if !ok || len(body) != sizes[o.Owner] { // no file has a dummy's number: so its size is 0
			return nil, m.tampered()
		}
		contents = append(contents, body)
	}
	return contents, api.OK
}

// open is the body of a row's blob, if it is what from has sealed into the row.
func (m mover) open(o api.Object, blob string) (string, bool) {
	if seal.Tag(blob) != o.Tag {
		return "", false
	}
	text, e := m.sides[fromSide].Open(api.KindData, o.Name, blob)
	if e != api.OK {
		return "", false
	}
	body, e := frame.Unpack(api.KindData, text)
	return body, e == api.OK
}

// sealed is what is ready to be put: the rows' objects and the pages, in the order of their Puts, and the root, which makes
// them count.
type sealed struct {
	objects []api.Blob
	root    api.Blob
}

// seal seals all of it ahead of the first Put: the root, which is sealed last, hangs on the tags of all others.
func (m mover) seal(st api.State, places []place, contents []string) (sealed, api.Errno) {
	var x sealed
	table := api.PoolState{Objects: slices.Clone(st.Pool.Objects), Queue: st.Pool.Queue}
	for i, content := range contents {
		b, e := m.object(places[i], content)
		if e != api.OK {
			return sealed{}, e
		}
		table.Objects[i].Name, table.Objects[i].Tag = b.Name, seal.Tag(b.Blob)
		x.objects = append(x.objects, b)
	}
	bodies, e := index.Encode(m.config, st.Tree, table)
	if e != api.OK {
		return sealed{}, e
	}
	root := api.Root{Config: m.config}
	for i, body := range bodies {
		b, e := m.object(places[len(contents)+i], body)
		if e != api.OK {
			return sealed{}, e
		}
		root.Pages = append(root.Pages, api.Ref{Name: b.Name, Tag: seal.Tag(b.Blob)})
		x.objects = append(x.objects, b)
	}
	body, e := index.EncodeRoot(m.config, root)
	if e != api.OK {
		return sealed{}, e
	}
	x.root, e = m.object(places[len(places)-1], body)
	return x, e
}

func (m mover) object(p place, body string) (api.Blob, api.Errno) {
	text, e := frame.Pack(p.kind, body, p.size)
	if e != api.OK {
		return api.Blob{}, e
	}
	blob, e := m.sides[toSide].Seal(p.kind, p.name, text, p.coins)
	return api.Blob{Name: p.name, Blob: blob}, e
}

// put makes what was sealed count: up to the Put of the root the vault is under from, from then on under to.
func (m mover) put(x sealed) api.Errno {
	for _, b := range x.objects {
		if e := m.world.Put(b.Name, b.Blob); e != api.OK {
			return e
		}
	}
	if e := m.world.Pend(seal.Tag(x.root.Blob)); e != api.OK {
		return e
	}
	if e := m.world.Put(x.root.Name, x.root.Blob); e != api.OK {
		return e
	}
	return m.world.Commit()
}

// remove lets go what is away already: whoever holds the store may have taken it.
func (m mover) remove(names []string) api.Errno {
	for _, name := range names {
		if e := m.world.Delete(name); e != api.OK && e != api.ErrNone {
			return e
		}
	}
	return api.OK
}
