package script

import (
	"strconv"
	"strings"
)

const (
	hexDigits = "0123456789abcdef"
	hexSize   = 2 // digits of a byte
	escape    = '%'
	byteMark  = "=" // ahead of every byte word
)

func numberWord(n int) string { return strconv.Itoa(n) }

// readNumber lets the number be written again: so of all that stands for it, the one way to write it is left.
func readNumber(word string) (int, bool) {
	n, err := strconv.Atoi(word)
	if err != nil || numberWord(n) != word {
		return 0, false
	}
	return n, true
}

// standsForItself is of runes, and may be: bytes that are no rune, and runes of several bytes, come up as runes that do not
// stand for themselves.
func standsForItself(r rune) bool {
	switch {
	case 'a' <= r && r <= 'z', 'A' <= r && r <= 'Z', '0' <= r && r <= '9':
		return true
	}
	return r == '.' || r == '_' || r == '-' || r == '/'
}

// byteWord writes what does not stand for itself when the next rune comes that does: where a rune ends shows only there.
func byteWord(text string) string {
	var b strings.Builder
	b.WriteString(byteMark)
	done := 0
	for i, r := range text {
		if standsForItself(r) {
			writeEscaped(&b, text[done:i])
			b.WriteByte(text[i])
			done = i + 1
		}
	}
	writeEscaped(&b, text[done:])
	return b.String()
}

func writeEscaped(b *strings.Builder, piece string) {
	for i := range len(piece) {
		b.WriteByte(escape)
		writeHex(b, piece[i])
	}
}

func readBytes(word string) (string, bool) {
	text, ok := strings.CutPrefix(word, byteMark)
	if !ok {
		return "", false
	}
	var b strings.Builder
	due, value := 0, byte(0) // digits that are due behind an escape, and what those up to now make
	for _, r := range text {
		digit, isDigit := digitOf(r)
		switch {
		case due > 0 && isDigit:
			value = value<<4 | digit
			due--
			if due > 0 {
				continue
			}
			if standsForItself(rune(value)) {
				return "", false
			}
			b.WriteByte(value)
		case due == 0 && r == escape:
			due = hexSize
		case due == 0 && standsForItself(r):
			b.WriteByte(byte(r))
		default:
			return "", false
		}
	}
	if due > 0 {
		return "", false
	}
	return b.String(), true
}

func hexWord(data string) string {
	var b strings.Builder
	for i := range len(data) {
		writeHex(&b, data[i])
	}
	return b.String()
}

func writeHex(b *strings.Builder, c byte) {
	b.WriteByte(hexDigits[c>>4])
	b.WriteByte(hexDigits[c&15])
}

func readHex(word string) (string, bool) {
	if len(word)%hexSize != 0 {
		return "", false
	}
	var b strings.Builder
	high := byte(0)
	for i, r := range word {
		digit, ok := digitOf(r)
		if !ok {
			return "", false
		}
		if i%hexSize == 0 {
			high = digit
		} else {
			b.WriteByte(high<<4 | digit)
		}
	}
	return b.String(), true
}

func digitOf(r rune) (byte, bool) {
	switch {
	case '0' <= r && r <= '9':
		return byte(r - '0'), true
	case 'a' <= r && r <= 'f':
		return byte(r-'a') + 10, true
	}
	return 0, false
}
