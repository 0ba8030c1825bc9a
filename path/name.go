package path

import (
	"strings"

	"casket/api"
)

const (
	firstByte = 33
	lastByte  = 126
)

// isName holds the limit against bytes. The others can be held against runes: a byte above lastByte is none by itself, and
// comes up as a rune that is above lastByte too, whether it is part of one or stands where none can be read.
func isName(s string) bool {
	if s == "" || s == "." || s == ".." || len(s) > api.MaxName {
		return false
	}
	for _, r := range s {
		if r < firstByte || r > lastByte || r == '/' {
			return false
		}
	}
	return true
}

// isRooted tells whether a text is a path's as far as its ends and its length say.
func isRooted(text string) bool {
	if len(text) > api.MaxPath || !strings.HasPrefix(text, root) {
		return false
	}
	return text == root || !strings.HasSuffix(text, "/")
}

// namesFault looks at all names, also behind the deepest that may be, since a wrong one counts ahead of too many.
func namesFault(names []string) api.Errno {
	for _, name := range names {
		if e := Name(name); e != api.OK {
			return e
		}
	}
	if len(names) > api.MaxDepth {
		return api.ErrDepth
	}
	return api.OK
}
