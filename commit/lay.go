package commit

import (
	"casket/api"
	"casket/frame"
	"casket/index"
	"casket/pool"
	"casket/seal"
	"casket/tree"
)

// sealed is a state that is ready to be put: the data objects and the pages, in the order of their Puts, and the root,
// which makes it count.
type sealed struct {
	objects []api.Blob
	root    api.Blob
	state   api.State
}

// seal lays the contents into these rows. All of it is sealed ahead of the first Put, as the root, which is sealed last,
// hangs on the tags of all others.
func (k keeper) seal(l layout, rows []int, contents []string, files *tree.Tree, table *pool.Pool) sealed {
	var x sealed
	for i, p := range l.data {
		b := k.object(p, contents[i])
		done(table.Set(rows[i], b.Name, seal.Tag(b.Blob), p.size))
		x.objects = append(x.objects, b)
	}
	x.state = api.State{Tree: files.State(), Pool: table.State(), Root: api.Root{Config: k.config}}
	for i, body := range must(index.Encode(k.config, x.state.Tree, x.state.Pool)) {
		b := k.object(l.pages[i], body)
		x.state.Root.Pages = append(x.state.Root.Pages, api.Ref{Name: b.Name, Tag: seal.Tag(b.Blob)})
		x.objects = append(x.objects, b)
	}
	x.root = k.object(l.root, must(index.EncodeRoot(k.config, x.state.Root)))
	return x
}

func (k keeper) object(p place, body string) api.Blob {
	text := must(frame.Pack(p.kind, body, p.size))
	return api.Blob{Name: p.name, Blob: must(k.sealer.Seal(p.kind, p.name, text, p.coins))}
}

// put makes the state count: up to the Put of the root what was there counts, from then on what is put.
func (k keeper) put(x sealed) {
	for _, b := range x.objects {
		done(k.world.Put(b.Name, b.Blob))
	}
	done(k.world.Pend(seal.Tag(x.root.Blob)))
	done(k.world.Put(x.root.Name, x.root.Blob))
	done(k.world.Commit())
}
