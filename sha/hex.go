package sha

import "casket/api"

const digits = "0123456789abcdef"

// Hex writes bytes as digits.
func Hex(data string) string {
	out := make([]byte, 0, 2*len(data))
	for i := range len(data) {
		out = append(out, digits[data[i]>>4], digits[data[i]&15])
	}
	return string(out)
}

// Unhex reads them.
func Unhex(text string) (string, api.Errno) {
	if len(text)%2 != 0 {
		return "", api.ErrHex
	}
	out := make([]byte, 0, len(text)/2)
	for i := 0; i < len(text); i += 2 {
		high, ok := digitOf(text[i])
		low, alsoOK := digitOf(text[i+1])
		if !ok || !alsoOK {
			return "", api.ErrHex
		}
		out = append(out, high<<4|low)
	}
	return string(out), api.OK
}

func digitOf(c byte) (byte, bool) {
	switch {
	case '0' <= c && c <= '9':
		return c - '0', true
	case 'a' <= c && c <= 'f':
		return c - 'a' + 10, true
	}
	return 0, false
}
