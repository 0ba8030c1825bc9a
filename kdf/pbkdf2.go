package kdf

import "casket/api"

// maxOfPass is how many bytes are made of a passphrase at most.
const maxOfPass = 1024

// PBKDF2 is n bytes of a passphrase.
func PBKDF2(pass, salt string, rounds, n int) (string, api.Errno) {
	if rounds < 1 || rounds > api.MaxRounds {
		return "", api.ErrRounds
	}
	if n < 0 || n > maxOfPass {
		return "", api.ErrLong
	}
	key := blocksOf(pass)
	var out []byte
	for i := uint32(1); len(out) < n; i++ {
		out = append(out, xorOf(rounds, chain(key, salt+fourBytes(i)))...)
	}
	return string(out[:n]), api.OK
}

// chain answers, asked again and again, the keyed sum of the first text, the keyed sum of that one, and so on.
func chain(key blocks, first string) func() string {
	last := first
	return func() string {
		last = key.sum(last)
		return last
	}
}

// xorOf is the xor of as many texts of one length as there are rounds.
func xorOf(rounds int, next func() string) []byte {
	out := []byte(next())
	for range rounds - 1 {
		text := next()
		for i := range out {
			out[i] ^= text[i]
		}
	}
	return out
}

func fourBytes(n uint32) string {
	return string([]byte{byte(n >> 24), byte(n >> 16), byte(n >> 8), byte(n)})
}
