package audit

import (
	"casket/api"
	"casket/frame"
	"casket/index"
	"casket/pool"
	"casket/seal"
	"casket/tree"
)

// looker has what a store is looked through with.
type looker struct {
	store  store
	sealer seal.Sealer
	config api.Config
}

// takeUp is the state that would be taken up, or the error with which that would end ahead of the first look at what else
// the store has.
func (l looker) takeUp(r api.Register) (api.State, api.Errno) {
	if r.Stopped {
		return api.State{}, api.ErrTampered
	}
	body, ok := l.rootBody(r)
	if !ok {
		return api.State{}, refusal(r)
	}
	root, e := index.DecodeRoot(l.config, body)
	if e == api.ErrConfig { // a vault of another configuration: nothing is wrong with it
		return api.State{}, api.ErrConfig
	}
	if e != api.OK {
		return api.State{}, refusal(r)
	}
	st, ok := l.stateOf(root)
	if !ok {
		return api.State{}, refusal(r)
	}
	return st, api.OK
}

// refusal: where no vault ever counted, there is none to be tampered with.
func refusal(r api.Register) api.Errno {
	if r.Current == "" {
		return api.ErrBlank
	}
	return api.ErrTampered
}

func (l looker) rootBody(r api.Register) (string, bool) {
	blob, there := l.store.get(api.RootName)
	tag := seal.Tag(blob)
	// A blob that is too short for a tag has "", as has a register without one: the two are not the same for that. So a
	// register that has no tag at all refuses every root.
	if !there || tag == "" || tag != r.Pending && tag != r.Current {
		return "", false
	}
	return l.open(api.KindRoot, api.RootName, blob)
}

func (l looker) stateOf(root api.Root) (api.State, bool) {
	var bodies []string
	for _, page := range root.Pages {
		blob, there := l.store.get(page.Name)
		if !there {
			return api.State{}, false
		}
		body, ok := l.body(api.KindPage, page, blob)
		if !ok {
			return api.State{}, false
		}
		bodies = append(bodies, body)
	}
	return l.decode(root, bodies)
}

func (l looker) decode(root api.Root, bodies []string) (api.State, bool) {
	c := l.config
	files, table, e := index.Decode(c, bodies)
	if e != api.OK {
		return api.State{}, false
	}
	if _, e := tree.Load(files, c.MaxFile); e != api.OK {
		return api.State{}, false
	}
	if _, e := pool.Load(table, c.Files, c.Slots); e != api.OK {
		return api.State{}, false
	}
	return api.State{Tree: files, Pool: table, Root: root}, true
}

// body is what a blob holds, if it is just the one that was sealed under the kind for this ref.
func (l looker) body(kind int, ref api.Ref, blob string) (string, bool) {
	if seal.Tag(blob) != ref.Tag {
		return "", false
	}
	return l.open(kind, ref.Name, blob)
}

// open catches what a sealer throws that is none of layer 8's: no call panics, and in a goroutine nobody else could catch it.
func (l looker) open(kind int, name, blob string) (body string, ok bool) {
	defer func() {
		if recover() != nil {
			body, ok = "", false
		}
	}()
	text, e := l.sealer.Open(kind, name, blob)
	if e != api.OK {
		return "", false
	}
	body, e = frame.Unpack(kind, text)
	return body, e == api.OK
}
