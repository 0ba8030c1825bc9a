package world

// power is on and not armed in its zero value.
type power struct {
	off  bool
	left int // calls that are still done; 0: not armed, since the power goes off when none is left
}

func (p *power) arm(k int) {
	p.off = k == 0
	p.left = max(k, 0)
}

// use takes a call off.
func (p *power) use() {
	if p.left == 0 {
		return
	}
	p.left--
	p.off = p.left == 0
}
