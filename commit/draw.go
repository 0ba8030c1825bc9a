package commit

import (
	"casket/api"
	"casket/frame"
	"casket/seal"
	"casket/tape"
)

const (
	nameSize = 16
	rootHead = frame.Head + 27 // ahead of its refs; no zeros lie behind them
	refSize  = 32
)

// place is what is known of an object ahead of sealing: where it will lie, how long its frame is, and its coins.
type place struct {
	kind  int
	name  string
	size  int
	coins string
}

// layout is the places of all that a call puts.
type layout struct {
	data, pages []place
	root        place
}

// draw is the places of data objects with these buckets, of the pages and of the root. All names are drawn ahead of all
// coins.
func (k keeper) draw(t *tape.Tape, taken []string, buckets []int) layout {
	places := make([]place, 0, len(buckets)+k.pages+1)
	for _, b := range buckets {
		places = append(places, place{kind: api.KindData, size: b})
	}
	for range k.pages {
		places = append(places, place{kind: api.KindPage, size: k.config.Page})
	}
	d := draws{tape: t, sealer: k.sealer, names: setOf(taken), tags: setOf(nil)}
	for i := range places {
		places[i].name = d.name()
	}
	places = append(places, place{kind: api.KindRoot, name: api.RootName, size: rootHead + refSize*k.pages})
	for i := range places {
		places[i].coins = d.coins(places[i].size)
	}
	data, rest := places[:len(buckets)], places[len(buckets):]
	return layout{data: data, pages: rest[:k.pages], root: rest[k.pages]}
}

// draws is what may not be drawn, or not once more, in a call.
type draws struct {
	tape   *tape.Tape
	sealer seal.Sealer
	names  set
	tags   set
}

func (d draws) bytes(n int) string {
	b, e := d.tape.Draw(n)
	if e != api.OK {
		giveUp(api.ErrEntropy)
	}
	return b
}

func (d draws) name() string {
	for {
		name := d.bytes(nameSize)
		if !d.names.has(name) {
			d.names.add(name)
			return name
		}
	}
}

// coins looks at the call's own coins beside the sealer's word: the sealer does not know of them yet, as nothing is sealed
// ahead of the last draw.
func (d draws) coins(size int) string {
	for {
		coins := d.bytes(d.sealer.Coins(size))
		tag := seal.Tag(coins)
		if d.sealer.Fresh(coins) && !d.tags.has(tag) {
			d.tags.add(tag)
			return coins
		}
	}
}
