package index

import "casket/api"

// writer takes what is written, one behind the other.
type writer struct{ bytes []byte }

// number writes the highest byte first.
func (w *writer) number(n, size int) {
	for i := range size {
		w.bytes = append(w.bytes, byte(n>>(8*(size-1-i))))
	}
}

func (w *writer) text(s string) { w.bytes = append(w.bytes, s...) }

func (w *writer) zeros(count int) { w.bytes = append(w.bytes, make([]byte, count)...) }

// dir writes zeros of a node that is not there.
func (w *writer) dir(n api.Node) {
	if n.Kind == 0 {
		w.zeros(nodeSize)
		return
	}
	w.number(1, 1)
	w.number(n.Parent, 2)
	w.number(len(n.Name), 1)
	w.text(n.Name)
	w.zeros(api.MaxName - len(n.Name))
}

func (w *writer) file(n api.Node) {
	w.dir(n)
	w.number(n.Size, 4)
}

func (w *writer) object(o api.Object) {
	w.text(o.Name)
	w.text(o.Tag)
	w.number(o.Bucket, 4)
	w.number(o.Owner+1, 4)
}

func (w *writer) queued(i int) { w.number(i, 4) }

func (w *writer) ref(r api.Ref) {
	w.text(r.Name)
	w.text(r.Tag)
}

func writeRows[R any](w *writer, rows []R, write func(*writer, R)) {
	for _, row := range rows {
		write(w, row)
	}
}

// imageOf is the image, and zeros behind it up to the last page's end.
func imageOf(c api.Config, t api.TreeState, p api.PoolState) []byte {
	whole := pageCount(c) * bodySize(c)
	dirs, files := byNumber(c, t.Nodes)
	w := &writer{bytes: make([]byte, 0, whole)}
	writeRows(w, dirs, (*writer).dir)
	writeRows(w, files, (*writer).file)
	writeRows(w, p.Objects, (*writer).object)
	writeRows(w, counted(c, p.Queue), (*writer).queued)
	w.zeros(whole - len(w.bytes))
	return w.bytes
}

// byNumber is a place for each number of either kind, with the node that has it. Directories are numbered from 1 on: the
// root is no node.
func byNumber(c api.Config, nodes []api.Node) (dirs, files []api.Node) {
	dirs, files = make([]api.Node, c.Dirs), make([]api.Node, c.Files)
	for _, n := range nodes {
		if n.Kind == api.IsDir {
			dirs[n.Number-1] = n
		} else {
			files[n.Number] = n
		}
	}
	return dirs, files
}

// counted is a queue as the rows of its piece: how many numbers it has, these, and 0 for each that is missing.
func counted(c api.Config, queue []int) []int {
	rows := make([]int, 1+rowsOf(c))
	rows[0] = len(queue)
	copy(rows[1:], queue)
	return rows
}

func cutIntoBodies(c api.Config, image []byte) []string {
	bodies := make([]string, pageCount(c))
	for i := range bodies {
		bodies[i] = string(image[i*bodySize(c) : (i+1)*bodySize(c)])
	}
	return bodies
}
