package seal

import "casket/api"

// checks is what both sealers look at ahead of sealing and opening. In it they differ by numbers alone: how many coins a
// text asks for, whatever it is, and how many more for each of its bytes.
type checks struct {
	anyway  int
	perByte int
}

// made tells a sealer that a call of this package made from a zero struct: of any sealer the empty text asks for coins.
func (c checks) made() bool { return c.anyway > 0 }

func (c checks) asked(size int) int {
	if size < 0 || size > api.MaxPlain {
		return 0
	}
	return c.anyway + c.perByte*size
}

// serves tells whether there is a text that asks for just so many coins.
func (c checks) serves(coins string) bool {
	return len(coins) >= c.asked(0) && len(coins) <= c.asked(api.MaxPlain)
}

// placeFault looks at what a blob is bound to.
func (c checks) placeFault(kind int, name string) api.Errno {
	if kind < api.KindData || kind > api.KindRoot {
		return api.ErrKind
	}
	if len(name) > api.MaxLabel {
		return api.ErrArg
	}
	return api.OK
}

func (c checks) sealFault(kind int, name, text, coins string) api.Errno {
	if e := c.placeFault(kind, name); e != api.OK {
		return e
	}
	if len(text) > api.MaxPlain {
		return api.ErrBig
	}
	if len(coins) != c.asked(len(text)) {
		return api.ErrCoins
	}
	return api.OK
}
