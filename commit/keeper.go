package commit

import (
	"casket/api"
	"casket/frame"
	"casket/index"
	"casket/seal"
	"casket/world"
)

// keeper does the work of one call, with what the call was handed.
type keeper struct {
	world  *world.World
	sealer seal.Sealer
	config api.Config
	pages  int
}

func newKeeper(w *world.World, s seal.Sealer, c api.Config) keeper {
	// A sealer that holds a nil pointer is not nil itself; that it asks for no coins tells it.
	if w == nil || s == nil || s.Coins(0) == 0 {
		giveUp(api.ErrNil)
	}
	return keeper{world: w, sealer: s, config: c, pages: must(index.Pages(c))}
}

// load is the register, if it was not stopped.
func (k keeper) load() api.Register {
	r := must(k.world.Load())
	if r.Stopped {
		giveUp(api.ErrTampered)
	}
	return r
}

// tampered stops the vault for good.
func (k keeper) tampered() {
	done(k.world.Stop())
	giveUp(api.ErrTampered)
}

func (k keeper) get(name string) (string, bool) {
	blob, e := k.world.Get(name)
	if e == api.ErrNone {
		return "", false
	}
	return must(blob, e), true
}

// remove lets go what is away already: a call that was cut off may have taken it, and whoever holds the store may have.
func (k keeper) remove(names []string) {
	for _, name := range names {
		if e := k.world.Delete(name); e != api.ErrNone {
			done(e)
		}
	}
}

// fetch is the body of an object, if it is there, has this tag, and is what was sealed under the kind and its name.
func (k keeper) fetch(kind int, ref api.Ref) (string, bool) {
	blob, there := k.get(ref.Name)
	if !there || seal.Tag(blob) != ref.Tag {
		return "", false
	}
	return k.open(kind, ref.Name, blob)
}

func (k keeper) open(kind int, name, blob string) (string, bool) {
	text, e := k.sealer.Open(kind, name, blob)
	if e != api.OK {
		return "", false
	}
	body, e := frame.Unpack(kind, text)
	return body, e == api.OK
}
