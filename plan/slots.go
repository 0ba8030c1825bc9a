package plan

import (
	"slices"

	"casket/api"
	"casket/frame"
	"casket/pool"
	"casket/tree"
)

const nobody = -1 // the owner of a dummy

// batch is the slots so far: the table as it is behind them, and the rows that they touch. No call to the table is refused:
// it fits the tree, which tells the effects, and has a dummy for each slot.
type batch struct {
	table *pool.Pool
	rows  []int
}

// touch is the row of each slot; the table is the one behind the batch then.
func touch(c api.Config, table *pool.Pool, steps []api.Step) []int {
	b := &batch{table: table}
	for i := range c.Slots {
		e := api.Effect{Kind: api.EffNone}
		if i < len(steps) {
			e = steps[i].Effect
		}
		b.rows = append(b.rows, b.rowFor(e))
	}
	b.queueDummies()
	return b.rows
}

// rowFor is the row that the slot of an effect touches. Which file it is counts, and whether it is made, used or gone: not
// what else is done to it.
func (b *batch) rowFor(e api.Effect) int {
	gone := e.File
	switch e.Kind {
	case api.EffMade:
		return b.give(e.File)
	case api.EffRead, api.EffWrite, api.EffCut:
		return b.unlessTouched(b.holding(e.File))
	case api.EffOver:
		gone = e.Gone
		fallthrough
	case api.EffGone:
		return b.unlessTouched(b.release(gone))
	}
	return b.dummy()
}

func (b *batch) dummy() int {
	row, _ := b.table.Pop()
	return row
}

func (b *batch) give(file int) int {
	row := b.dummy()
	b.table.Assign(row, file)
	return row
}

func (b *batch) holding(file int) int {
	row, _ := b.table.ByOwner(file)
	return row
}

// release leaves the row out of the queue: a later slot of the batch must not take it.
func (b *batch) release(file int) int {
	row := b.holding(file)
	b.table.Release(row)
	return row
}

func (b *batch) unlessTouched(row int) int {
	if slices.Contains(b.rows, row) {
		return b.dummy()
	}
	return row
}

func (b *batch) queueDummies() {
	for _, row := range b.rows {
		if ownerOf(b.table, row) == nobody {
			b.table.Push(row)
		}
	}
}

func ownerOf(table *pool.Pool, row int) int {
	o, _ := table.At(row)
	return o.Owner
}

// told is what is told of the slots, by the table ahead of the batch, and the table and the tree behind it.
func told(c api.Config, rows []int, ahead, behind *pool.Pool, files *tree.Tree) []api.Slot {
	sizes := sizesOf(files.State())
	slots := make([]api.Slot, len(rows))
	for i, row := range rows {
		s := api.Slot{Object: row, Was: ownerOf(ahead, row), File: ownerOf(behind, row)}
		size := 0
		if s.File != nobody {
			size = sizes[s.File]
		}
		s.Bucket, _ = frame.Size(size, c.Least)
		slots[i] = s
	}
	return slots
}

// sizesOf is the size of each file by its number.
func sizesOf(t api.TreeState) []int {
	sizes := make([]int, t.Files)
	for _, n := range t.Nodes {
		if n.Kind == api.IsFile {
			sizes[n.Number] = n.Size
		}
	}
	return sizes
}
