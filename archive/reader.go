package archive

import (
	"strconv"
	"strings"

	"casket/api"
	"casket/sha"
)

const maxNumber = 999999

// said is what a text says that has the form, be it true or not.
type said struct {
	entries []api.Entry
	summed  string // what the sum is to be of
	sum     string // as bytes
}

// read is false of a text that has not the form.
func read(text string) (said, bool) {
	rest, isText := strings.CutPrefix(text, firstLine)
	if !isText {
		return said{}, false
	}
	r := &reader{left: rest}
	entries, ok := r.entries()
	if !ok {
		return said{}, false
	}
	summed := text[:len(text)-len(r.left)]
	sum, ok := r.sum()
	if !ok || r.left != "" {
		return said{}, false
	}
	return said{entries: entries, summed: summed, sum: sum}, true
}

// reader goes through a text from its front on.
type reader struct {
	left string
}

// line is the next one, without its end.
func (r *reader) line() (string, bool) {
	line, left, isWhole := strings.Cut(r.left, lineEnd)
	r.left = left
	return line, isWhole
}

// worded is what stands behind a word in the next line.
func (r *reader) worded(word string) (string, bool) {
	line, isWhole := r.line()
	rest, isThis := strings.CutPrefix(line, word)
	return rest, isWhole && isThis
}

// entries grow one by one, as their number may say more than there are.
func (r *reader) entries() ([]api.Entry, bool) {
	digits, ok := r.worded(entriesWord)
	if !ok {
		return nil, false
	}
	count, ok := numberOf(digits)
	if !ok {
		return nil, false
	}
	var entries []api.Entry
	for range count {
		e, ok := r.entry()
		if !ok {
			return nil, false
		}
		entries = append(entries, e)
	}
	return entries, true
}

// entry is made of copies, so that who keeps one does not keep the whole text with it.
func (r *reader) entry() (api.Entry, bool) {
	line, isWhole := r.line()
	if !isWhole {
		return api.Entry{}, false
	}
	if path, isDir := strings.CutPrefix(line, dirWord); isDir {
		return api.Entry{Path: strings.Clone(path), Kind: api.IsDir}, isOneWord(path)
	}
	rest, isFile := strings.CutPrefix(line, fileWord)
	digits, path, _ := strings.Cut(rest, blank)
	size, isNumber := numberOf(digits)
	if !isFile || !isNumber || !isOneWord(path) {
		return api.Entry{}, false
	}
	data, ok := r.bytes(size)
	return api.Entry{Path: strings.Clone(path), Kind: api.IsFile, Data: strings.Clone(data)}, ok
}

// bytes are as many as are asked for, with a line's end behind them.
func (r *reader) bytes(count int) (string, bool) {
	if len(r.left) < count {
		return "", false
	}
	bytes := r.left[:count]
	rest, isEnded := strings.CutPrefix(r.left[count:], lineEnd)
	r.left = rest
	return bytes, isEnded
}

func (r *reader) sum() (string, bool) {
	digits, ok := r.worded(sumWord)
	if !ok {
		return "", false
	}
	sum, e := sha.Unhex(digits)
	return sum, e == api.OK
}

func isOneWord(text string) bool { return text != "" && !strings.Contains(text, blank) }

// numberOf holds what it has read against how it would be written: so a sign or a 0 too many is told.
func numberOf(digits string) (int, bool) {
	n, err := strconv.Atoi(digits)
	if err != nil || n < 0 || n > maxNumber || strconv.Itoa(n) != digits {
		return 0, false
	}
	return n, true
}
