package shares

// values are an element for each byte of a master key: what the polynomials of all places have at one number, or the
// coefficients that all of them have at one power.
type values [keySize]byte

func valuesOf(text string) values {
	var v values
	copy(v[:], text)
	return v
}

func (v values) plus(other values) values {
	for i := range v {
		v[i] ^= other[i]
	}
	return v
}

func (v values) times(a byte) values {
	m := multiplesOf(a)
	for i := range v {
		v[i] = m.times(v[i])
	}
	return v
}

// polynomials are those of all places, as a table of their coefficients, the lowest power first. The powers that a split
// does not come to are zeros.
type polynomials [most]values

// polynomialsOf is handed a master key and the coins behind it: they lie in the order of the table.
func polynomialsOf(text string) polynomials {
	var p polynomials
	for i := range len(text) / keySize {
		p[i] = valuesOf(text[i*keySize:])
	}
	return p
}

// text is the coefficients of the powers below k: a master key, and its coins.
func (p polynomials) text(k int) string {
	var out []byte
	for _, v := range p[:k] {
		out = append(out, v[:]...)
	}
	return string(out)
}

func (p polynomials) at(x byte) values {
	var sum values
	for i := range p {
		sum = sum.times(x).plus(p[len(p)-1-i])
	}
	return sum
}

// point is what the polynomials of all places have at x: a share, or at 0 the master key.
type point struct {
	x      byte
	values values
}

// through is the polynomials that go through all points, of a degree below the number of these. No two points are at one
// x, and there are no more of them than most.
//
// Each point is met by putting so many times that polynomial to them which is 0 at the points ahead of it: so they keep
// going through these.
func through(points []point) polynomials {
	var p polynomials
	ahead := vanishing{1}
	for _, next := range points {
		wanting := next.values.plus(p.at(next.x))
		factor := wanting.times(inverse(ahead.at(next.x)))
		for i := range p {
			p[i] = p[i].plus(factor.times(ahead[i]))
		}
		ahead = ahead.alsoAt(next.x)
	}
	return p
}

// vanishing is a polynomial that is 0 at some places and nowhere else, the lowest power first. {1} is 0 nowhere.
type vanishing [most + 1]byte

func (v vanishing) at(x byte) byte {
	m := multiplesOf(x)
	var sum byte
	for i := range v {
		sum = m.times(sum) ^ v[len(v)-1-i]
	}
	return sum
}

// alsoAt is the product with x + place, which is 0 at that place alone.
func (v vanishing) alsoAt(place byte) vanishing {
	m := multiplesOf(place)
	var product vanishing
	copy(product[1:], v[:])
	for i, c := range v {
		product[i] ^= m.times(c)
	}
	return product
}
