package shares

import (
	"crypto/sha256"
	"slices"
	"strings"
	"testing"

	"casket/api"
)

// What follows does the document's words once more, place by place and with numbers for bytes, against which the program
// is held.

// plainMul multiplies polynomials whose coefficients are bits, and takes what comes out modulo 283, bit by bit.
func plainMul(a, b int) int {
	product := 0
	for i := range 8 {
		if b>>i&1 == 1 {
			product ^= a << i
		}
	}
	for i := 14; i >= 8; i-- {
		if product>>i&1 == 1 {
			product ^= 283 << (i - 8)
		}
	}
	return product
}

// plainInverses is filled by trying all bytes.
var plainInverses = func() (inverses [256]int) {
	for a := range 256 {
		for b := range 256 {
			if plainMul(a, b) == 1 {
				inverses[a] = b
			}
		}
	}
	return inverses
}()

func plainValue(c []int, x int) int {
	sum, power := 0, 1
	for _, a := range c {
		sum ^= plainMul(a, power)
		power = plainMul(power, x)
	}
	return sum
}

// plainShare is a share's text, with its right sum, whatever its fields are.
func plainShare(x, k int, id, values string) string {
	s := "S" + string([]byte{byte(x), byte(k)}) + id + values
	sum := sha256.Sum256([]byte(s))
	return s + string(sum[:8])
}

func plainSplit(master string, n, k int, id, coins string) ([]string, api.Errno) {
	switch {
	case len(master) != 32:
		return nil, api.ErrKey
	case n < 1, n > 16, k < 1, k > n, len(id) != 8:
		return nil, api.ErrArg
	case len(coins) != (k-1)*32:
		return nil, api.ErrCoins
	}
	var list []string
	for x := 1; x <= n; x++ {
		values := ""
		for j := range 32 {
			c := []int{int(master[j])}
			for i := 1; i < k; i++ {
				c = append(c, int(coins[(i-1)*32+j]))
			}
			values += string([]byte{byte(plainValue(c, x))})
		}
		list = append(list, plainShare(x, k, id, values))
	}
	return list, api.OK
}

// plainFault is why a text is no share.
func plainFault(s string) api.Errno {
	if len(s) != 51 || s[0] != 'S' {
		return api.ErrForm
	}
	if sum := sha256.Sum256([]byte(s[:43])); string(sum[:8]) != s[43:] {
		return api.ErrCheck
	}
	if s[1] < 1 || s[1] > 16 || s[2] < 1 || s[2] > 16 {
		return api.ErrField
	}
	return api.OK
}

// plainTogether is why shares do not belong together.
func plainTogether(list []string) api.Errno {
	for _, s := range list {
		if e := plainFault(s); e != api.OK {
			return e
		}
	}
	for _, s := range list {
		if s[2:11] != list[0][2:11] {
			return api.ErrSplit
		}
	}
	for i, s := range list {
		for _, other := range list[:i] {
			if s[1] == other[1] {
				return api.ErrTwice
			}
		}
	}
	return api.OK
}

// plainAt is the value at x of the one polynomial that has these values at these places, by Lagrange's words.
func plainAt(places, values []int, x int) int {
	sum := 0
	for i := range places {
		term := values[i]
		for j := range places {
			if j != i {
				term = plainMul(term, plainMul(x^places[j], plainInverses[places[i]^places[j]]))
			}
		}
		sum ^= term
	}
	return sum
}

// plainPoints are the places of some shares, and the values of their place j.
func plainPoints(list []string, j int) (places, values []int) {
	for _, s := range list {
		places, values = append(places, int(s[1])), append(values, int(s[11+j]))
	}
	return places, values
}

func plainJoin(list []string) (string, api.Errno) {
	if len(list) == 0 {
		return "", api.ErrFew
	}
	if e := plainTogether(list); e != api.OK {
		return "", e
	}
	k := int(list[0][2])
	if len(list) < k {
		return "", api.ErrFew
	}
	master := make([]byte, 32)
	for j := range master {
		places, values := plainPoints(list[:k], j)
		for _, s := range list[k:] {
			if plainAt(places, values, int(s[1])) != int(s[11+j]) {
				return "", api.ErrSplit
			}
		}
		master[j] = byte(plainAt(places, values, 0))
	}
	return string(master), api.OK
}

// plainSolve is the coefficients of the one polynomial that has these values at these places: of as many equations, by
// taking away each unknown from all others.
func plainSolve(places, values []int) []int {
	n := len(places)
	rows := make([][]int, n)
	for i, x := range places {
		power := 1
		for range n {
			rows[i] = append(rows[i], power)
			power = plainMul(power, x)
		}
		rows[i] = append(rows[i], values[i])
	}
	for c := range n {
		lead := slices.IndexFunc(rows[c:], func(r []int) bool { return r[c] != 0 }) + c
		rows[c], rows[lead] = rows[lead], rows[c]
		inverse := plainInverses[rows[c][c]]
		for i := range rows[c] {
			rows[c][i] = plainMul(rows[c][i], inverse)
		}
		for r := range n {
			times := rows[r][c]
			for i := range rows[r] {
				if r != c {
					rows[r][i] ^= plainMul(times, rows[c][i])
				}
			}
		}
	}
	var out []int
	for _, r := range rows {
		out = append(out, r[n])
	}
	return out
}

func plainExplain(master string, list []string) (string, api.Errno) {
	if len(master) != 32 {
		return "", api.ErrKey
	}
	if e := plainTogether(list); e != api.OK {
		return "", e
	}
	if len(list) != 0 && len(list) != int(list[0][2])-1 {
		return "", api.ErrFew
	}
	coins := make([]byte, 32*len(list))
	for j := range 32 {
		places, values := plainPoints(list, j)
		c := plainSolve(append([]int{0}, places...), append([]int{int(master[j])}, values...))
		for i := range list {
			coins[i*32+j] = byte(c[i+1])
		}
	}
	return string(coins), api.OK
}

// What the tests lay down and ask.

const id = "\x00\x01\x02\x03\x04\x05\x06\x07"

var (
	zero = strings.Repeat("\x00", 32)
	five = strings.Repeat("\x05", 32)
)

func times(c byte, n int) string { return strings.Repeat(string([]byte{c}), n) }

// dice are numbers without much order, the same ones in each run.
type dice uint64

func (d *dice) below(n int) int {
	*d = *d*6364136223846793005 + 1442695040888963407
	return int(uint64(*d) >> 33 % uint64(n))
}

func (d *dice) text(n int) string {
	b := make([]byte, n)
	for i := range b {
		b[i] = byte(d.below(256))
	}
	return string(b)
}

// shuffled is the list in another order, of which only the first n are left.
func (d *dice) shuffled(list []string, n int) []string {
	out := slices.Clone(list)
	for i := range out {
		j := i + d.below(len(out)-i)
		out[i], out[j] = out[j], out[i]
	}
	return out[:n]
}

func made(t *testing.T, master string, n, k int, id, coins string) []string {
	t.Helper()
	list, e := Split(master, n, k, id, coins)
	if e != api.OK || len(list) != n {
		t.Fatalf("Split(n %d, k %d): %d shares, %d", n, k, len(list), e)
	}
	return list
}

func isJoin(t *testing.T, want string, e api.Errno, list ...string) {
	t.Helper()
	if s, f := Join(list...); s != want || f != e {
		t.Errorf("Join(%x) = %x, %d, want %x, %d", list, s, f, want, e)
	}
}

func isExplain(t *testing.T, want string, e api.Errno, master string, list ...string) {
	t.Helper()
	if s, f := Explain(master, list...); s != want || f != e {
		t.Errorf("Explain(%x, %x) = %x, %d, want %x, %d", master, list, s, f, want, e)
	}
}
