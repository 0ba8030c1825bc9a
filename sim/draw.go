package sim

import (
	"iter"

	"casket/api"
	"casket/frame"
	"casket/seal"
)

const (
	nameSize = 16
	rootHead = frame.Head + 27 // ahead of its refs; no zeros lie behind them
	refSize  = 32
)

// place is what is known of an object ahead of sealing: where it will lie, how many bytes are sealed, and its coins.
type place struct {
	kind  int
	name  string
	size  int
	coins string
}

// draws is made for each act: pieces of the tape, each as long as size says by then. It ends where the tape refuses, and
// draws nothing ahead of being asked, so that what a caller that has enough leaves is there for the next act.
func (s *simulator) draws(size func() int) iter.Seq[string] {
	return func(yield func(string) bool) {
		for {
			text, e := s.tape.Draw(size())
			if e != api.OK || !yield(text) {
				return
			}
		}
	}
}

// draw is the places of all that an act puts, in the order of its Puts: of the rows that are touched, of the pages, of the
// root. It is false where the tape is too short.
func (s *simulator) draw(touches []api.Touch, taken []string) ([]place, bool) {
	d := drawing{places: s.unnamed(touches), sealer: s.sealer, names: setOf(taken), tags: set[string]{}}
	for text := range s.draws(d.size) {
		if d.take(text); d.isDone() {
			return d.places, true
		}
	}
	return nil, false
}

// unnamed is the places without what is drawn for them.
func (s *simulator) unnamed(touches []api.Touch) []place {
	places := make([]place, 0, len(touches)+s.pages+1)
	for _, t := range touches {
		places = append(places, place{kind: api.KindData, size: t.Bucket})
	}
	for range s.pages {
		places = append(places, place{kind: api.KindPage, size: s.config.Page})
	}
	return append(places, place{kind: api.KindRoot, name: api.RootName, size: rootHead + refSize*s.pages})
}

// drawing is how far the drawing for some places came: of all of them but the root, the last one, a name is drawn first, and
// behind all names coins, of each.
type drawing struct {
	places      []place
	sealer      *seal.Ideal
	named, paid int         // of how many places
	names, tags set[string] // those that may not be drawn, or not once more
}

func (d *drawing) isNaming() bool { return d.named < len(d.places)-1 }

func (d *drawing) isDone() bool { return d.paid == len(d.places) }

// size is how many bytes are asked for next.
func (d *drawing) size() int {
	if d.isNaming() {
		return nameSize
	}
	return d.sealer.Coins(d.places[d.paid].size)
}

// take lets go what may not be used: then as many bytes are asked for once more.
func (d *drawing) take(text string) {
	if !d.isNaming() {
		d.takeCoins(text)
	} else if d.names.add(text) {
		d.places[d.named].name = text
		d.named++
	}
}

// takeCoins looks at the act's own coins beside the sealer's word: the sealer does not know of them yet, as nothing is
// sealed ahead of the last draw.
func (d *drawing) takeCoins(coins string) {
	if d.sealer.Fresh(coins) && d.tags.add(seal.Tag(coins)) {
		d.places[d.paid].coins = coins
		d.paid++
	}
}
