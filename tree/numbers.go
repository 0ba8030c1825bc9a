package tree

import (
	"iter"
	"slices"
)

// numbers gives out the numbers from 0 on, the lowest that is free first, and keeps what has each.
type numbers[T any] struct {
	room int      // how many numbers there are
	rows []row[T] // up to the highest number that was taken so far
	low  int      // no number below it is free
}

type row[T any] struct {
	taken bool
	item  T
}

// give takes the lowest number that is free, if there is one.
func (n *numbers[T]) give(item T) (int, bool) {
	for n.low < len(n.rows) && n.rows[n.low].taken {
		n.low++
	}
	number := n.low
	return number, n.claim(number, item)
}

// claim takes this very number, if there is such a one, and it is free.
func (n *numbers[T]) claim(number int, item T) bool {
	if number < 0 || number >= n.room || n.has(number) {
		return false
	}
	if missing := number + 1 - len(n.rows); missing > 0 {
		n.rows = append(n.rows, make([]row[T], missing)...)
	}
	n.set(number, item)
	return true
}

func (n *numbers[T]) has(number int) bool {
	return number >= 0 && number < len(n.rows) && n.rows[number].taken
}

// get is what has a number that is taken.
func (n *numbers[T]) get(number int) T { return n.rows[number].item }

func (n *numbers[T]) set(number int, item T) { n.rows[number] = row[T]{taken: true, item: item} }

func (n *numbers[T]) free(number int) {
	n.rows[number] = row[T]{}
	n.low = min(n.low, number)
}

// all goes through what has a number, by rising numbers.
func (n *numbers[T]) all() iter.Seq2[int, T] {
	return func(yield func(int, T) bool) {
		for number, r := range n.rows {
			if r.taken && !yield(number, r.item) {
				return
			}
		}
	}
}

// copy shares no row; what the items themselves share is the caller's matter.
func (n *numbers[T]) copy() numbers[T] {
	return numbers[T]{room: n.room, rows: slices.Clone(n.rows), low: n.low}
}
