package index

import (
	"slices"
	"strings"

	"casket/api"
)

// What reads here takes rows as Encode writes them, and something of any other row: whether it was Encode's shows when what
// was read is written once more.

func readTree(c api.Config, image string) api.TreeState {
	dirs := readRows(c, image, dirPiece, readDir)
	files := readRows(c, image, filePiece, readFile)
	return api.TreeState{Files: c.Files, Dirs: c.Dirs, Nodes: slices.Concat(numbered(dirs, 1), numbered(files, 0))}
}

func readPool(c api.Config, image string) api.PoolState {
	return api.PoolState{
		Objects: readRows(c, image, objectPiece, readObject),
		Queue:   uncounted(readRows(c, image, queuePiece, readNumber)),
	}
}

func readRows[R any](c api.Config, image string, p piece, read func(string) R) []R {
	rows := make([]R, rowCounts(c)[p])
	start, size := startOf(c, p), rowSizes[p]
	for i := range rows {
		rows[i] = read(image[start+i*size:][:size])
	}
	return rows
}

func readDir(row string) api.Node { return readNode(row, api.IsDir) }

func readFile(row string) api.Node {
	n := readNode(row, api.IsFile)
	n.Size = readNumber(row[nodeSize:])
	return n
}

// readNode is a node without its number. Its Kind is 0 if the row has none. Texts that go into an answer are copies, so that
// who keeps one does not keep the whole image with it.
func readNode(row string, kind int) api.Node {
	if row[0] == 0 {
		return api.Node{}
	}
	name := row[4 : 4+min(int(row[3]), api.MaxName)]
	return api.Node{Kind: kind, Parent: readNumber(row[1:3]), Name: strings.Clone(name)}
}

// numbered is the nodes that are there, each with its number.
func numbered(rows []api.Node, first int) []api.Node {
	var nodes []api.Node
	for i, n := range rows {
		if n.Kind != 0 {
			n.Number = first + i
			nodes = append(nodes, n)
		}
	}
	return nodes
}

func readObject(row string) api.Object {
	r, numbers := readRef(row), row[2*wordSize:]
	return api.Object{Name: r.Name, Tag: r.Tag, Bucket: readNumber(numbers[:4]), Owner: readNumber(numbers[4:]) - 1}
}

func readRef(row string) api.Ref {
	return api.Ref{Name: strings.Clone(row[:wordSize]), Tag: strings.Clone(row[wordSize : 2*wordSize])}
}

// uncounted is a queue of the rows of its piece, or all numbers there, if it cannot have as many as the first row says.
func uncounted(rows []int) []int {
	count, queue := rows[0], rows[1:]
	if isFrom(count, 0, len(queue)) {
		queue = queue[:count]
	}
	return queue
}

func readNumber(digits string) int {
	n := 0
	for i := range len(digits) {
		n = n<<8 | int(digits[i])
	}
	return n
}
