package seal

import (
	"casket/aead"
	"casket/api"
	"casket/kdf"
)

const (
	masterSize = 32
	keySize    = 32
	nonceSize  = 24
	keySalt    = "casket"
)

// Real seals with a key. Its fields are the program's own business.
//
// The master key is not among them: the kinds' keys are all that is needed, and none of them gives it back.
type Real struct {
	checks
	keys [api.KindRoot]string // of the kinds, in their order
}

// NewReal is a sealer under a master key of 32 bytes.
func NewReal(master string) (*Real, api.Errno) {
	if len(master) != masterSize {
		return nil, api.ErrKey
	}
	s := &Real{checks: checks{anyway: nonceSize}}
	secret := kdf.Extract(keySalt, master)
	for i := range s.keys {
		key, e := kdf.Expand(secret, kindByte(api.KindData+i), keySize)
		if e != api.OK {
			return nil, e
		}
		s.keys[i] = key
	}
	return s, api.OK
}

// Coins is 24.
func (s *Real) Coins(size int) int {
	if !s.there() {
		return 0
	}
	return s.asked(size)
}

// Fresh is true of any coins of that length.
func (s *Real) Fresh(coins string) bool { return s.there() && s.serves(coins) }

// Seal seals.
func (s *Real) Seal(kind int, name, text, coins string) (string, api.Errno) {
	if !s.there() {
		return "", api.ErrNil
	}
	if e := s.sealFault(kind, name, text, coins); e != api.OK {
		return "", e
	}
	box, e := aead.Seal(s.key(kind), coins, bound(kind, name), text)
	if e != api.OK {
		return "", e
	}
	return coins + box, api.OK
}

// Open opens.
func (s *Real) Open(kind int, name, blob string) (string, api.Errno) {
	if !s.there() {
		return "", api.ErrNil
	}
	if e := s.placeFault(kind, name); e != api.OK {
		return "", e
	}
	if len(blob) < Overhead || len(blob) > api.MaxPlain+Overhead {
		return "", api.ErrSealed
	}
	text, e := aead.Open(s.key(kind), blob[:nonceSize], bound(kind, name), blob[nonceSize:])
	if e != api.OK {
		return "", api.ErrSealed
	}
	return text, api.OK
}

func (s *Real) there() bool { return s != nil && s.made() }

func (s *Real) key(kind int) string { return s.keys[kind-api.KindData] }

// bound is what a box is held to beside its text.
func bound(kind int, name string) string { return kindByte(kind) + name }

func kindByte(kind int) string { return string([]byte{byte(kind)}) }
