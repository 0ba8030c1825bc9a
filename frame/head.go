package frame

// head is what lies ahead of a body: the kind, and the number of the body's bytes, the highest byte first.
type head [Head]byte

const (
	leastKind = 1
	mostKind  = 255
)

func isKind(kind int) bool { return kind >= leastKind && kind <= mostKind }

func headOf(kind, count int) head {
	return head{byte(kind), byte(count >> 24), byte(count >> 16), byte(count >> 8), byte(count)}
}

// headIn is the head of a text of at least Head bytes.
func headIn(frame string) head {
	var h head
	copy(h[:], frame)
	return h
}

func (h head) kind() int { return int(h[0]) }

// count is unsigned, since a text may say a number with its highest bit set.
func (h head) count() uint32 {
	return uint32(h[1])<<24 | uint32(h[2])<<16 | uint32(h[3])<<8 | uint32(h[4])
}

// zeros ranges over runes, not bytes, and may: the byte 0 is the only text of the rune 0, and bytes that are no rune come
// out as another one.
func zeros(piece string) bool {
	for _, r := range piece {
		if r != 0 {
			return false
		}
	}
	return true
}
