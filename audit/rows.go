package audit

import (
	"sync"

	"casket/api"
)

// finding is what a row was found to be.
type finding int

const (
	right finding = iota
	missing
	spoilt
	findings // how many there are
)

// workers is how many rows are looked at at once; what is found does not hang on it.
const workers = 8

// lookAtRows counts the rows by what they were found to be.
//
// Both channels have room for all rows, so that nobody waits for anybody: the goroutines have ended when the caller begins to
// range over what they found. In which order that comes is not to be seen in a count.
func (l looker) lookAtRows(st api.State) [findings]int {
	rows, sizes := st.Pool.Objects, sizesOf(st.Tree)
	numbers, found := numbersOf(len(rows)), make(chan finding, len(rows))
	var busy sync.WaitGroup
	for range workers {
		busy.Add(1)
		go func() {
			defer busy.Done()
			for i := range numbers {
				found <- l.lookAt(rows[i], sizes[rows[i].Owner])
			}
		}()
	}
	busy.Wait()
	close(found)
	var counts [findings]int
	for f := range found {
		counts[f]++
	}
	return counts
}

// numbersOf is the rows' numbers, for whoever takes them.
func numbersOf(count int) chan int {
	numbers := make(chan int, count)
	for i := range count {
		numbers <- i
	}
	close(numbers)
	return numbers
}

// sizesOf is the files' lengths by their numbers. It says 0 of a number that no file has, and so of a dummy's owner.
func sizesOf(files api.TreeState) map[int]int {
	sizes := map[int]int{}
	for _, n := range files.Nodes {
		if n.Kind == api.IsFile {
			sizes[n.Number] = n.Size
		}
	}
	return sizes
}

func (l looker) lookAt(row api.Object, size int) finding {
	blob, there := l.store.get(row.Name)
	if !there {
		return missing
	}
	body, ok := l.body(api.KindData, api.Ref{Name: row.Name, Tag: row.Tag}, blob)
	if !ok || len(body) != size {
		return spoilt
	}
	return right
}
