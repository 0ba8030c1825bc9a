package kdf

import (
	"casket/api"
	"casket/sha"
)

// Mac is a keyed sum that runs along. Its fields are the program's own business.
type Mac struct {
	inner sha.Hasher // took the key's inner block, and all that has come
	outer string     // the key's outer block; it is empty where no call of this package made the Mac
}

// NewMac is a keyed sum of nothing yet.
func NewMac(key string) *Mac {
	b := blocksOf(key)
	m := &Mac{inner: *sha.NewHasher(), outer: b.outer}
	m.inner.Write(b.inner)
	return m
}

// Write puts bytes to the sum. Its limit is the inner sum's own, which counts the key's block too.
func (m *Mac) Write(s string) api.Errno {
	if !m.there() {
		return api.ErrNil
	}
	return m.inner.Write(s)
}

// Sum is the sum of all that was written.
func (m *Mac) Sum() string {
	if !m.there() {
		return ""
	}
	return sha.Sum(m.outer, m.inner.Sum())
}

func (m *Mac) there() bool { return m != nil && m.outer != "" }
