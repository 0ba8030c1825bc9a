package sha

import "casket/api"

// A state is the words, the count and the bytes that fill no block yet.
const (
	countAt = 32
	restAt  = 40
)

// State is the running sum as bytes.
func (h *Hasher) State() string {
	if !h.there() {
		return ""
	}
	out := appendNumber([]byte(h.words.text()), h.count)
	return string(append(out, h.rest[:h.filled()]...))
}

// Restore is a sum that goes on from a state.
func Restore(state string) (*Hasher, api.Errno) {
	if len(state) < restAt {
		return nil, api.ErrState
	}
	h := &Hasher{made: true, words: wordsOf(state[:countAt]), count: numberOf(state[countAt:restAt])}
	if h.count > maxCount || len(state) != restAt+h.filled() {
		return nil, api.ErrState
	}
	if h.count < blockSize && h.words != firstWords {
		return nil, api.ErrState // no block has changed them yet
	}
	copy(h.rest[:], state[restAt:])
	return h, api.OK
}

func wordsOf(text string) words {
	var out words
	for i := range out {
		out[i] = uint32(numberOf(text[4*i : 4*i+4]))
	}
	return out
}

// numberOf takes the bytes as one number, the highest first.
func numberOf(text string) uint64 {
	var n uint64
	for i := range len(text) {
		n = n<<8 | uint64(text[i])
	}
	return n
}

// appendNumber writes a number as eight bytes, the highest first.
func appendNumber(to []byte, n uint64) []byte {
	for shift := 56; shift >= 0; shift -= 8 {
		to = append(to, byte(n>>shift))
	}
	return to
}
