package exec

// content is what a file has in it. Its bytes are its own, the room behind them too: they are changed in place.
type content struct {
	bytes []byte
}

func contentOf(text string) content { return content{bytes: []byte(text)} }

func (c content) text() string { return string(c.bytes) }

func (c content) size() int { return len(c.bytes) }

// piece is the n bytes from at on; of no bytes at may lie anywhere.
func (c content) piece(at, n int) string {
	if n == 0 {
		return ""
	}
	return string(c.bytes[at : at+n])
}

// sizeWith is the size that it has once data is laid down from at on: no bytes make it no longer, wherever at is.
func (c content) sizeWith(at int, data string) int {
	if data == "" {
		return c.size()
	}
	return max(c.size(), at+len(data))
}

func (c content) with(at int, data string) content {
	if data == "" {
		return c
	}
	c = c.resized(c.sizeWith(at, data))
	copy(c.bytes[at:], data)
	return c
}

// resized is cut to size, or filled up with zeros. Zeros are written, since what was cut off still lies in the room behind.
func (c content) resized(size int) content {
	if size <= c.size() {
		return content{bytes: c.bytes[:size]}
	}
	return content{bytes: append(c.bytes, make([]byte, size-c.size())...)}
}
