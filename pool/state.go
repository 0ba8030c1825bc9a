package pool

import (
	"maps"
	"slices"
	"strings"

	"casket/api"
)

const (
	nobody = -1 // the owner of a dummy
	length = 16 // of a name and of a tag
)

// row is an object of the table, and whether it waits in the queue, so that no call looks for it there.
type row struct {
	api.Object
	queued bool
}

func (r row) isDummy() bool { return r.Owner == nobody }

func (r row) isOut() bool { return r.isDummy() && !r.queued }

// state is all that a pool has. owners and names are the rows once more, by what a row is found by.
type state struct {
	files  int
	rows   []row
	owners map[int]int
	names  map[string]int
	queue  ring[int]
}

// newState has dummies alone, all of them out.
func newState(files, slots int) *state {
	s := &state{files: files, rows: make([]row, files+slots), owners: map[int]int{}, names: map[string]int{}}
	for i := range s.rows {
		s.rows[i].Owner = nobody
	}
	return s
}

func (s *state) copy() *state {
	return &state{
		files:  s.files,
		rows:   slices.Clone(s.rows),
		owners: maps.Clone(s.owners),
		names:  maps.Clone(s.names),
		queue:  s.queue.copy(),
	}
}

// told is the state as data.
func (s *state) told() api.PoolState {
	objects := make([]api.Object, len(s.rows))
	for i, r := range s.rows {
		objects[i] = r.Object
	}
	return api.PoolState{Objects: objects, Queue: s.queue.list()}
}

// put lays an object into a row. The row is no longer found by what it had, but by what it has.
func (s *state) put(i int, next api.Object) {
	was := s.rows[i].Object
	if was == next {
		return
	}
	move(s.owners, was.Owner, next.Owner, nobody, i)
	move(s.names, was.Name, next.Name, "", i)
	s.rows[i].Object = next
}

// move has a row found by another key; by none it is not found.
func move[K comparable](rows map[K]int, was, next, none K, i int) {
	delete(rows, was)
	if next != none {
		rows[next] = i
	}
}

func (s *state) push(i int) {
	s.rows[i].queued = true
	s.queue.push(i)
}

func (s *state) pop() (int, bool) {
	i, ok := s.queue.pop()
	if ok {
		s.rows[i].queued = false
	}
	return i, ok
}

func (s *state) give(i, owner int) {
	next := s.rows[i].Object
	next.Owner = owner
	s.put(i, next)
}

func (s *state) isFile(file int) bool { return file >= 0 && file < s.files }

func (s *state) isHeld(file int) bool {
	_, ok := s.owners[file]
	return ok
}

func (s *state) isNameOfOther(name string, i int) bool {
	other, ok := s.names[name]
	return ok && other != i
}

// isStored tells whether a row may say this of its object in the store, whatever the other rows say.
func isStored(o api.Object) bool {
	return isText(o.Name) && isText(o.Tag) && o.Bucket >= 0 && o.Bucket <= api.MaxBlob
}

// owned copies the texts, so that no greater text is kept with them.
func owned(o api.Object) api.Object {
	o.Name, o.Tag = strings.Clone(o.Name), strings.Clone(o.Tag)
	return o
}

func isText(s string) bool { return s == "" || len(s) == length }
