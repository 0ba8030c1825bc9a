package seal

import (
	"slices"

	"casket/api"
)

// Ideal seals by a table: a blob is nothing but coins. Its fields are the program's own business.
//
// The table stands behind a pointer, so that a copy of the struct is the same sealer: two that went on apart from one
// table could give a tag twice.
type Ideal struct {
	checks
	table *table
}

// NewIdeal is a sealer whose table has these rows.
func NewIdeal(table []api.Sealed) (*Ideal, api.Errno) {
	s := &Ideal{checks: checks{anyway: Overhead, perByte: 1}, table: newTable()}
	for _, row := range table { // a row that was sealed is one that can be sealed, with its blob as the coins
		if _, e := s.Seal(row.Kind, row.Name, row.Text, row.Blob); e != api.OK {
			return nil, e
		}
	}
	return s, api.OK
}

// Coins is the size and Overhead.
func (s *Ideal) Coins(size int) int {
	if !s.there() {
		return 0
	}
	return s.asked(size)
}

// Fresh tells whether the coins' tag was never given.
func (s *Ideal) Fresh(coins string) bool {
	return s.there() && s.serves(coins) && !s.table.gave(coins)
}

// Seal notes a row and answers the coins.
func (s *Ideal) Seal(kind int, name, text, coins string) (string, api.Errno) {
	if !s.there() {
		return "", api.ErrNil
	}
	if e := s.sealFault(kind, name, text, coins); e != api.OK {
		return "", e
	}
	if s.table.gave(coins) {
		return "", api.ErrStale
	}
	s.table.note(api.Sealed{Kind: kind, Name: name, Blob: coins, Text: text})
	return coins, api.OK
}

// Open looks a row up.
func (s *Ideal) Open(kind int, name, blob string) (string, api.Errno) {
	if !s.there() {
		return "", api.ErrNil
	}
	if e := s.placeFault(kind, name); e != api.OK {
		return "", e
	}
	row, found := s.table.row(blob)
	if !found || row.Kind != kind || row.Name != name {
		return "", api.ErrSealed
	}
	return row.Text, api.OK
}

// Table is all rows, in the order in which they were noted.
func (s *Ideal) Table() []api.Sealed {
	if !s.there() {
		return nil
	}
	return slices.Clone(s.table.rows)
}

func (s *Ideal) there() bool { return s != nil && s.made() }

// table is all rows in their order, and of each blob's tag the place of its row, of which there is one.
type table struct {
	rows  []api.Sealed
	place map[string]int
}

func newTable() *table { return &table{place: map[string]int{}} }

// gave tells whether the tag of this blob is a row's.
func (t *table) gave(blob string) bool {
	_, given := t.place[Tag(blob)]
	return given
}

func (t *table) note(row api.Sealed) {
	t.place[Tag(row.Blob)] = len(t.rows)
	t.rows = append(t.rows, row)
}

// row is the one with this blob, if there is one.
func (t *table) row(blob string) (api.Sealed, bool) {
	place, given := t.place[Tag(blob)]
	if !given || t.rows[place].Blob != blob {
		return api.Sealed{}, false
	}
	return t.rows[place], true
}
