package frame

import "math/bits"

// bucket is that of a length from 0 on. The document's e is the number of the binary digits of n behind the first, and its
// s the number of all digits of e, since the first power of two above e is that of one digit more.
func bucket(n int) int {
	if n <= 1 {
		return n
	}
	e := bits.Len(uint(n)) - 1
	s := bits.Len(uint(e))
	step := 1 << (e - s)
	return (n + step - 1) / step * step
}
