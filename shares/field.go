package shares

// An element of the field is a byte. Nothing here asks for an if, or for a place in a table that hangs on an element: so
// the time it takes says nothing about a key.

const (
	elements  = 256
	exponents = 8
	// carried is x^8 modulo the field's polynomial.
	carried = 0x1b
)

func isElement(n int) bool { return n >= 0 && n < elements }

// multiples is a table of what an element is times 1, x, x^2 and so on: each product with it is a sum of some of these.
type multiples [exponents]byte

func multiplesOf(a byte) multiples {
	var m multiples
	for i := range m {
		m[i] = a
		a = a<<1 ^ carried&everyBit(a>>(exponents-1))
	}
	return m
}

func (m multiples) times(b byte) byte {
	var product byte
	for i := range m {
		product ^= m[i] & everyBit(b>>i&1)
	}
	return product
}

// everyBit is eight times the one bit.
func everyBit(bit byte) byte { return -bit }

// inverse is a^254, since a^255 is 1 for all elements but 0: the product of a^2, a^4, and so on, to a^128.
func inverse(a byte) byte {
	square, product := a, byte(1)
	for range exponents - 1 {
		square = multiplesOf(square).times(square)
		product = multiplesOf(product).times(square)
	}
	return product
}
