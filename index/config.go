package index

import (
	"casket/api"
	"casket/frame"
)

// The pieces of the image, in their order.
type piece int

const (
	dirPiece piece = iota
	filePiece
	objectPiece
	queuePiece
	pieceCount
)

const (
	wordSize   = 16               // of an object's name and of its tag
	nodeSize   = 4 + api.MaxName  // a mark, the parent, the name's length, the name
	fileSize   = nodeSize + 4     // and the size
	objectSize = 2*wordSize + 4*2 // and the bucket and the owner
)

// rowSizes are the bytes of a row of each piece.
var rowSizes = [pieceCount]int{dirPiece: nodeSize, filePiece: fileSize, objectPiece: objectSize, queuePiece: 4}

// rowCounts: ahead of the queue's numbers stands how many there are, as a number like them.
func rowCounts(c api.Config) [pieceCount]int {
	return [pieceCount]int{dirPiece: c.Dirs, filePiece: c.Files, objectPiece: rowsOf(c), queuePiece: 1 + rowsOf(c)}
}

// startOf is where a piece begins in the image: behind all those of lower numbers.
func startOf(c api.Config, p piece) int {
	start, counts := 0, rowCounts(c)
	for ahead := range p {
		start += counts[ahead] * rowSizes[ahead]
	}
	return start
}

func rowsOf(c api.Config) int { return c.Files + c.Slots }

func bodySize(c api.Config) int { return c.Page - frame.Head }

func pageCount(c api.Config) int {
	return (startOf(c, pieceCount) + bodySize(c) - 1) / bodySize(c)
}

// mayBe asks for the number of pages behind all else: while a number is out of its limits, it may be too great to count with.
func mayBe(c api.Config) bool {
	return isFrom(c.Slots, 1, api.MaxSlots) &&
		isFrom(c.Files, 1, api.MaxFiles) &&
		isFrom(c.Dirs, 0, api.MaxDirs) &&
		isFrom(c.MaxFile, 0, api.MaxFile) &&
		isFrom(c.Least, 16, 65536) &&
		isFrom(c.Page, 64, api.MaxPage) &&
		pageCount(c) <= api.MaxPages
}

func isFrom(n, least, most int) bool { return n >= least && n <= most }
