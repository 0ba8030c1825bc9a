package poly

const (
	blockSize = 16
	limbCount = 5
	limbBits  = 26
	limbMask  = 1<<limbBits - 1
	limbReach = 5 // how many bytes a limb has bits of, at most
)

// number has the lowest limb first. At rest each limb has 26 bits; in between they may grow, up to what 64 bits hold.
type number [limbCount]uint64

// block has room for one byte more than a whole block has: for the 1 that stands behind its bytes.
type block [blockSize + 1]byte

// number goes by where limbs begin: the limb i at the bit 26 i, which is 2 i bits past the byte 3 i.
func (b block) number() number {
	var n number
	for i := range n {
		var bits uint64
		for j := range limbReach {
			bits |= uint64(b[3*i+j]) << (8 * j)
		}
		n[i] = bits >> (2 * i) & limbMask
	}
	return n
}

// text is the number modulo 2^128, as sixteen bytes. It wants limbs at rest.
func (n number) text() string {
	var b block
	for i := range n {
		for j := range limbReach {
			b[3*i+j] |= byte(n[i] << (2 * i) >> (8 * j))
		}
	}
	return string(b[:blockSize])
}

// plus leaves it to others to bring the limbs to rest.
func (n number) plus(other number) number {
	for i := range n {
		n[i] += other[i]
	}
	return n
}

// times is the product modulo p. No sum in it comes near 2^64 while one factor is at rest and the other the sum of two
// numbers at rest. The limbs from 2^130 on come in below, five times each, for 2^130 is 5 modulo p.
func (n number) times(other number) number {
	var sums [2 * limbCount]uint64
	for i := range limbCount {
		for j := range limbCount {
			sums[i+j] += n[i] * other[j]
		}
	}
	var product number
	for i := range limbCount {
		product[i] = sums[i] + 5*sums[i+limbCount]
	}
	return product.folded()
}

// folded brings the limbs of a product to rest. The third time nothing is left that goes past them.
func (n number) folded() number {
	for range 3 {
		var over uint64
		n, over = n.spread()
		n[0] += 5 * over
	}
	return n
}

// spread hands on to the next limb what is too much for one. over is what goes past the last: as many times 2^130.
func (n number) spread() (rest number, over uint64) {
	for i := range n {
		over += n[i]
		rest[i] = over & limbMask
		over >>= limbBits
	}
	return rest, over
}

// least is what a number at rest is modulo p. It is p or more just where five more go past 2^130; and to take p away is
// to put five to it and to leave out 2^130. It asks for no if, so that the time it takes says nothing.
func (n number) least() number {
	_, over := n.plus(number{5}).spread()
	rest, _ := n.plus(number{5 * over}).spread()
	return rest
}
