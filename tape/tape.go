// Package tape: randomness that comes to an end: see DOC.md, layer 1.
package tape

import "casket/api"

// Tape is randomness that was given whole. Its fields are the program's own business.
//
// The bytes lie behind a pointer for two reasons: a struct that New did not make has none and is known by that, and a
// copy of the struct is the same tape, so that even then no byte is drawn twice.
type Tape struct {
	reel *reel
}

type reel struct {
	rest  []byte
	drawn int
}

// New is a tape of those bytes.
func New(bytes string) (*Tape, api.Errno) {
	if len(bytes) > api.MaxTape {
		return nil, api.ErrBig
	}
	own := make([]byte, len(bytes))
	copy(own, bytes)
	return &Tape{reel: &reel{rest: own}}, api.OK
}

// Draw takes the next n bytes; if there are too few, the tape is empty from then on.
func (t *Tape) Draw(n int) (string, api.Errno) {
	if !t.made() {
		return "", api.ErrNil
	}
	if n < 0 {
		return "", api.ErrArg
	}
	if n > len(t.reel.rest) {
		t.reel.lose()
		return "", api.ErrEntropy
	}
	return t.reel.take(n), api.OK
}

// Left is how many bytes are left.
func (t *Tape) Left() int {
	if !t.made() {
		return 0
	}
	return len(t.reel.rest)
}

// Drawn is how many bytes were drawn.
func (t *Tape) Drawn() int {
	if !t.made() {
		return 0
	}
	return t.reel.drawn
}

func (t *Tape) made() bool { return t != nil && t.reel != nil }

// take wipes the place of what it takes: whoever sees the memory later finds no randomness that is in use.
func (r *reel) take(n int) string {
	out := make([]byte, n)
	copy(out, r.rest)
	clear(r.rest[:n])
	r.rest = r.rest[n:]
	r.drawn += n
	return string(out)
}

// lose leaves nothing behind, so that nothing can be made of a rest.
func (r *reel) lose() {
	clear(r.rest)
	r.rest = nil
}
