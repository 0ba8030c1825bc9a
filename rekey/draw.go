package rekey

import (
	"casket/api"
	"casket/frame"
	"casket/seal"
	"casket/tape"
)

const (
	nameSize = 16
	rootHead = frame.Head + 27 // ahead of its refs; no zeros lie behind them
	refSize  = 32
)

// place is what is known of an object ahead of sealing: where it will lie, how long its frame is, and its coins.
type place struct {
	kind  int
	size  int
	name  string
	coins string
}

// placesOf is the places of the rows, of the pages and of the root, without what is to be drawn.
func (m mover) placesOf(st api.State) []place {
	pages := len(st.Root.Pages)
	places := make([]place, 0, len(st.Pool.Objects)+pages+1)
	for _, o := range st.Pool.Objects {
		places = append(places, place{kind: api.KindData, size: o.Bucket})
	}
	for range pages {
		places = append(places, place{kind: api.KindPage, size: m.config.Page})
	}
	return append(places, place{kind: api.KindRoot, size: rootHead + refSize*pages, name: api.RootName})
}

// draw is the places of all that is sealed anew. All names are drawn ahead of all coins.
func (m mover) draw(t *tape.Tape, st api.State) ([]place, api.Errno) {
	places := m.placesOf(st)
	old, names := setOf(namesOf(st)), setOf(nil)
	for i := range places[:len(places)-1] { // the root has its name
		name, e := drawUntaken(t, nameSize, old.has, names.has)
		if e != api.OK {
			return nil, e
		}
		names.add(name)
		places[i].name = name
	}
	// The sealer does not know of the call's own coins yet, as nothing is sealed ahead of the last draw.
	to, tags := m.sides[toSide], setOf(nil)
	stale := func(coins string) bool { return !to.Fresh(coins) }
	twice := func(coins string) bool { return tags.has(seal.Tag(coins)) }
	for i, p := range places {
		coins, e := drawUntaken(t, to.Coins(p.size), stale, twice)
		if e != api.OK {
			return nil, e
		}
		tags.add(seal.Tag(coins))
		places[i].coins = coins
	}
	return places, api.OK
}

// drawUntaken draws that many bytes, until none of those who look at them says that they are taken.
func drawUntaken(t *tape.Tape, n int, taken ...func(string) bool) (string, api.Errno) {
drawing:
	for {
		drawn, e := t.Draw(n)
		if e != api.OK {
			return "", api.ErrEntropy
		}
		for _, isTaken := range taken {
			if isTaken(drawn) {
				continue drawing
			}
		}
		return drawn, api.OK
	}
}

// set is some texts, of names or tags.
type set map[string]struct{}

func setOf(texts []string) set {
	s := make(set, len(texts))
	for _, text := range texts {
		s.add(text)
	}
	return s
}

func (s set) add(text string) { s[text] = struct{}{} }

func (s set) has(text string) bool {
	_, there := s[text]
	return there
}
