package shares

import (
	"casket/api"
	"casket/sha"
)

// A share's text is its mark, its number, its split's k and id, its values, and the beginning of the sum of all that.
const (
	mark       = 'S'
	keySize    = 32
	idSize     = 8
	idAt       = 3
	valuesAt   = idAt + idSize
	summedSize = valuesAt + keySize
	checkSize  = 8
	textSize   = summedSize + checkSize
)

// split is what the shares of one split have in common.
type split struct {
	k  byte
	id [idSize]byte
}

type share struct {
	split split
	point point
}

func (s share) text() string {
	summed := string([]byte{mark, s.point.x, s.split.k}) + string(s.split.id[:]) + string(s.point.values[:])
	return summed + check(summed)
}

func check(summed string) string { return sha.Sum(summed)[:checkSize] }

func readShare(text string) (share, api.Errno) {
	if len(text) != textSize || text[0] != mark {
		return share{}, api.ErrForm
	}
	if text[summedSize:] != check(text[:summedSize]) {
		return share{}, api.ErrCheck
	}
	x, k := text[1], text[2]
	if !isNumber(x) || !isNumber(k) {
		return share{}, api.ErrField
	}
	s := share{split: split{k: k}, point: point{x: x, values: valuesOf(text[valuesAt:])}}
	copy(s.split.id[:], text[idAt:])
	return s, api.OK
}

func isNumber(b byte) bool { return b >= 1 && b <= most }

// readTogether is shares that belong together. Each question is put to all of them ahead of the next one: so where they
// have more faults than one, it is the first question's that is told.
func readTogether(texts []string) ([]share, api.Errno) {
	var list []share
	for _, text := range texts {
		s, e := readShare(text)
		if e != api.OK {
			return nil, e
		}
		list = append(list, s)
	}
	for _, s := range list {
		if s.split != list[0].split {
			return nil, api.ErrSplit
		}
	}
	var taken [most + 1]bool
	for _, s := range list {
		if taken[s.point.x] {
			return nil, api.ErrTwice
		}
		taken[s.point.x] = true
	}
	return list, api.OK
}

func pointsOf(list []share) []point {
	var points []point
	for _, s := range list {
		points = append(points, s.point)
	}
	return points
}
