package kdf

import "casket/api"

// maxExpand is 255 sums: the number of a sum is one byte.
const maxExpand = 8160

// Extract is the first half of HKDF.
func Extract(salt, secret string) string { return HMAC(salt, secret) }

// Expand is the second half: n bytes.
func Expand(prk, info string, n int) (string, api.Errno) {
	if n < 0 || n > maxExpand {
		return "", api.ErrLong
	}
	key := blocksOf(prk)
	var out []byte
	last := "" // nothing comes ahead of the first sum
	for i := 1; len(out) < n; i++ {
		last = key.sum(last, info, string([]byte{byte(i)}))
		out = append(out, last...)
	}
	return string(out[:n]), api.OK
}
