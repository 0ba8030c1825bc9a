package sha

import "math/bits"

const blockSize = 64

type block [blockSize]byte

// words are H0 .. H7.
type words [8]uint32

// firstWords: the first 32 bits behind the point of the square roots of the first eight primes.
var firstWords = words{
	0x6a09e667, 0xbb67ae85, 0x3c6ef372, 0xa54ff53a, 0x510e527f, 0x9b05688c, 0x1f83d9ab, 0x5be0cd19,
}

// stepWords are K0 .. K63: the first 32 bits behind the point of the cube roots of the first 64 primes.
var stepWords = [64]uint32{
	0x428a2f98, 0x71374491, 0xb5c0fbcf, 0xe9b5dba5, 0x3956c25b, 0x59f111f1, 0x923f82a4, 0xab1c5ed5,
	0xd807aa98, 0x12835b01, 0x243185be, 0x550c7dc3, 0x72be5d74, 0x80deb1fe, 0x9bdc06a7, 0xc19bf174,
	0xe49b69c1, 0xefbe4786, 0x0fc19dc6, 0x240ca1cc, 0x2de92c6f, 0x4a7484aa, 0x5cb0a9dc, 0x76f988da,
	0x983e5152, 0xa831c66d, 0xb00327c8, 0xbf597fc7, 0xc6e00bf3, 0xd5a79147, 0x06ca6351, 0x14292967,
	0x27b70a85, 0x2e1b2138, 0x4d2c6dfc, 0x53380d13, 0x650a7354, 0x766a0abb, 0x81c2c92e, 0x92722c85,
	0xa2bfe8a1, 0xa81a664b, 0xc24b8b70, 0xc76c51a3, 0xd192e819, 0xd6990624, 0xf40e3585, 0x106aa070,
	0x19a4c116, 0x1e376c08, 0x2748774c, 0x34b0bcb5, 0x391c0cb3, 0x4ed8aa4a, 0x5b9cca4f, 0x682e6ff3,
	0x748f82ee, 0x78a5636f, 0x84c87814, 0x8cc70208, 0x90befffa, 0xa4506ceb, 0xbef9a3f7, 0xc67178f2,
}

// mixedWith are the words behind one more block.
func (w words) mixedWith(from block) words {
	spread := spreadOf(from)
	a, b, c, d, e, f, g, h := w[0], w[1], w[2], w[3], w[4], w[5], w[6], w[7]
	for i, x := range spread {
		t := h + big1(e) + ((e & f) ^ (^e & g)) + stepWords[i] + x
		u := big0(a) + ((a & b) ^ (a & c) ^ (b & c))
		a, b, c, d, e, f, g, h = t+u, a, b, c, d+t, e, f, g
	}
	return words{w[0] + a, w[1] + b, w[2] + c, w[3] + d, w[4] + e, w[5] + f, w[6] + g, w[7] + h}
}

// spreadOf are W0 .. W63 of a block.
func spreadOf(from block) [64]uint32 {
	var w [64]uint32
	for i := range 16 {
		w[i] = uint32(from[4*i])<<24 | uint32(from[4*i+1])<<16 | uint32(from[4*i+2])<<8 | uint32(from[4*i+3])
	}
	for i := 16; i < len(w); i++ {
		w[i] = little1(w[i-2]) + w[i-7] + little0(w[i-15]) + w[i-16]
	}
	return w
}

func little0(x uint32) uint32 { return turn(x, 7) ^ turn(x, 18) ^ x>>3 }

func little1(x uint32) uint32 { return turn(x, 17) ^ turn(x, 19) ^ x>>10 }

func big0(x uint32) uint32 { return turn(x, 2) ^ turn(x, 13) ^ turn(x, 22) }

func big1(x uint32) uint32 { return turn(x, 6) ^ turn(x, 11) ^ turn(x, 25) }

// turn goes towards the low end, the library's turn the other way: hence the minus.
func turn(x uint32, s int) uint32 { return bits.RotateLeft32(x, -s) }

func (w words) text() string {
	out := make([]byte, 0, 4*len(w))
	for _, x := range w {
		out = append(out, byte(x>>24), byte(x>>16), byte(x>>8), byte(x))
	}
	return string(out)
}
