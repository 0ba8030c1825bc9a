package index

import "casket/api"

const (
	rootMark = 'R'
	rootHead = 27 // the mark, six numbers of 4 bytes, one of 2
	refSize  = 2 * wordSize
)

// EncodeRoot is the body of the root.
func EncodeRoot(c api.Config, r api.Root) (string, api.Errno) {
	if !mayBe(c) || r.Config != c {
		return "", api.ErrConfig
	}
	if !areRefs(c, r.Pages) {
		return "", api.ErrIndex
	}
	return rootOf(r), api.OK
}

// DecodeRoot reads it. As of the pages, what was read is written once more and held against the body.
func DecodeRoot(c api.Config, body string) (api.Root, api.Errno) {
	if !mayBe(c) {
		return api.Root{}, api.ErrConfig
	}
	r, ok := readRoot(body)
	if !ok || rootOf(r) != body {
		return api.Root{}, api.ErrIndex
	}
	if r.Config != c {
		return api.Root{}, api.ErrConfig
	}
	return r, api.OK
}

func areRefs(c api.Config, refs []api.Ref) bool {
	for _, r := range refs {
		if !isNamed(r.Name, r.Tag) {
			return false
		}
	}
	return len(refs) == pageCount(c)
}

func rootOf(r api.Root) string {
	c := r.Config
	w := &writer{bytes: make([]byte, 0, rootHead+refSize*len(r.Pages))}
	w.number(rootMark, 1)
	for _, n := range []int{c.Slots, c.Files, c.Dirs, c.MaxFile, c.Least, c.Page} {
		w.number(n, 4)
	}
	w.number(len(r.Pages), 2)
	writeRows(w, r.Pages, (*writer).ref)
	return string(w.bytes)
}

// readRoot is a root of a configuration that may be, with as many refs as that has pages; the body's other words are left
// to whoever writes it once more.
func readRoot(body string) (api.Root, bool) {
	if len(body) < rootHead {
		return api.Root{}, false
	}
	r := api.Root{Config: readConfig(body[1:rootHead])}
	if !mayBe(r.Config) || len(body) != rootHead+refSize*pageCount(r.Config) {
		return api.Root{}, false
	}
	for at := rootHead; at < len(body); at += refSize {
		r.Pages = append(r.Pages, readRef(body[at:][:refSize]))
	}
	return r, true
}

func readConfig(numbers string) api.Config {
	at := func(i int) int { return readNumber(numbers[4*i:][:4]) }
	return api.Config{Slots: at(0), Files: at(1), Dirs: at(2), MaxFile: at(3), Least: at(4), Page: at(5)}
}
