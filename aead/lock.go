package aead

import (
	"casket/api"
	"casket/chacha"
	"casket/poly"
)

// How many bytes each thing has. The first bytes of a long nonce go into the key, the others behind the zeros that make
// a short nonce of them.
const (
	keySize    = 32
	shortNonce = 12
	longNonce  = 24
	intoKey    = 16
	tagSize    = 16
)

// fillSize is what the pieces of a tag's text are filled up to a multiple of.
const fillSize = 16

// The blocks of the stream: the tag's key is taken from the first, the text lies under those behind it, so that no byte
// of the stream serves twice.
const (
	tagBlock  = 0
	textBlock = 1
)

const zeros = "\x00\x00\x00\x00\x00\x00\x00\x00\x00\x00\x00\x00\x00\x00\x00\x00"

// lock is the key and the short nonce by which all is done, whatever nonce was handed in.
type lock struct{ key, nonce string }

func lockOf(key, nonce string) (lock, api.Errno) {
	if len(key) != keySize {
		return lock{}, api.ErrKey
	}
	switch len(nonce) {
	case shortNonce:
		return lock{key, nonce}, api.OK
	case longNonce:
		inner, e := chacha.HChaCha(key, nonce[:intoKey])
		return lock{inner, "\x00\x00\x00\x00" + nonce[intoKey:]}, e
	}
	return lock{}, api.ErrNonce
}

// turned makes the cipher text of a plain text, and the plain text of a cipher text.
func (l lock) turned(text string) (string, api.Errno) {
	return chacha.Xor(l.key, textBlock, l.nonce, text)
}

func (l lock) tag(aad, cipher string) (string, api.Errno) {
	block, e := chacha.Block(l.key, tagBlock, l.nonce)
	if e != api.OK {
		return "", e
	}
	sum, e := poly.New(block[:keySize])
	if e != api.OK {
		return "", e
	}
	e = handOn(sum.Write, aad, filling(aad), cipher, filling(cipher), lengthOf(aad), lengthOf(cipher))
	if e != api.OK {
		return "", e
	}
	return sum.Sum(), api.OK
}

// handOn spares a text of all pieces joined, which would be as long as they are.
func handOn(write func(string) api.Errno, pieces ...string) api.Errno {
	for _, piece := range pieces {
		if e := write(piece); e != api.OK {
			return e
		}
	}
	return api.OK
}

// filling is what stands behind a text that is filled up.
func filling(text string) string {
	return zeros[:(fillSize-len(text)%fillSize)%fillSize]
}

// lengthOf is a text's length as eight bytes, the lowest first.
func lengthOf(text string) string {
	var out [8]byte
	for i := range out {
		out[i] = byte(len(text) >> (8 * i))
	}
	return string(out[:])
}
