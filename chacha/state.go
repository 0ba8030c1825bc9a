package chacha

import "math/bits"

// state is handed about as a value, so that what stood at the start is still at hand behind the rounds.
type state [16]uint32

// counterPlace is where the block's counter stands in a state of the stream.
const counterPlace = 12

// firstWords are the text "expand 32-byte k".
var firstWords = [4]uint32{0x61707865, 0x3320646e, 0x79622d32, 0x6b206574}

// doubleRound has the places of its eight quarter rounds: the state's columns, then its slanting lines.
var doubleRound = [8][4]int{
	{0, 4, 8, 12}, {1, 5, 9, 13}, {2, 6, 10, 14}, {3, 7, 11, 15},
	{0, 5, 10, 15}, {1, 6, 11, 12}, {2, 7, 8, 13}, {3, 4, 9, 14},
}

// stateOf is the state of a key, 32 bytes, and of what stands behind it, 16 bytes.
func stateOf(key, last string) state {
	var s state
	for i, w := range firstWords {
		s[i] = w
	}
	for i := range 8 {
		s[4+i] = wordAt(key, 4*i)
	}
	for i := range 4 {
		s[12+i] = wordAt(last, 4*i)
	}
	return s
}

// streamState is the state of a block of the stream. The three have been looked at: they are what they must be.
func streamState(key string, counter int, nonce string) state {
	return stateOf(key, textOf(uint32(counter))+nonce)
}

// mixed is the state behind ten double rounds.
func (s state) mixed() state {
	for range 10 {
		for _, q := range doubleRound {
			s[q[0]], s[q[1]], s[q[2]], s[q[3]] = quarter(s[q[0]], s[q[1]], s[q[2]], s[q[3]])
		}
	}
	return s
}

// block adds the start to what the rounds make of it: else they could be gone back, to the key.
func (s state) block() string {
	sum := s.mixed()
	for i := range sum {
		sum[i] += s[i]
	}
	return textOf(sum[:]...)
}

func quarter(a, b, c, d uint32) (uint32, uint32, uint32, uint32) {
	a += b
	d = bits.RotateLeft32(d^a, 16)
	c += d
	b = bits.RotateLeft32(b^c, 12)
	a += b
	d = bits.RotateLeft32(d^a, 8)
	c += d
	b = bits.RotateLeft32(b^c, 7)
	return a, b, c, d
}

// wordAt is the word that begins at a place of a text.
func wordAt(text string, at int) uint32 {
	return uint32(text[at]) | uint32(text[at+1])<<8 | uint32(text[at+2])<<16 | uint32(text[at+3])<<24
}

func textOf(words ...uint32) string {
	out := make([]byte, 0, blockSize)
	for _, w := range words {
		out = append(out, byte(w), byte(w>>8), byte(w>>16), byte(w>>24))
	}
	return string(out)
}
