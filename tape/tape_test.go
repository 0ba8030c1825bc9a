package tape

import (
	"math"
	"strings"
	"testing"

	"casket/api"
)

func made(t *testing.T, bytes string) *Tape {
	t.Helper()
	x, e := New(bytes)
	if e != api.OK || x == nil {
		t.Fatalf("New of %d bytes: %v, %d", len(bytes), x != nil, e)
	}
	return x
}

func wantDraw(t *testing.T, x *Tape, n int, s string, e api.Errno) {
	t.Helper()
	if gotS, gotE := x.Draw(n); gotS != s || gotE != e {
		t.Fatalf("Draw(%d): %d bytes, %d, want %d bytes, %d", n, len(gotS), gotE, len(s), e)
	}
}

func wantCounts(t *testing.T, x *Tape, left, drawn int) {
	t.Helper()
	if x.Left() != left || x.Drawn() != drawn {
		t.Fatalf("%d left, %d drawn, want %d, %d", x.Left(), x.Drawn(), left, drawn)
	}
}

// allBytes is every value of a byte: those that are no UTF-8, and zeros, too.
func allBytes() string {
	b := make([]byte, 256)
	for i := range b {
		b[i] = byte(i)
	}
	return string(b)
}

// P1.1

func TestNewKeepsTheBytes(t *testing.T) {
	for _, bytes := range []string{"", "a", "\x00", "abcdef", allBytes()} {
		x := made(t, bytes)
		wantCounts(t, x, len(bytes), 0)
		wantDraw(t, x, len(bytes), bytes, api.OK)
	}
}

func TestNewAtTheLimit(t *testing.T) {
	big := strings.Repeat("0123456789abcdef", api.MaxTape/16)
	x := made(t, big)
	wantCounts(t, x, api.MaxTape, 0)
	wantDraw(t, x, api.MaxTape-1, big[:api.MaxTape-1], api.OK)
	wantDraw(t, x, 1, "f", api.OK)
	wantCounts(t, x, 0, api.MaxTape)
	if x, e := New(big + "x"); x != nil || e != api.ErrBig {
		t.Fatalf("New of one byte more than MaxTape: %v, %d", x != nil, e)
	}
}

func TestTwoTapesOfTheSameBytes(t *testing.T) {
	bytes := allBytes()
	a, b := made(t, bytes), made(t, bytes)
	wantDraw(t, a, 100, bytes[:100], api.OK)
	wantCounts(t, b, 256, 0)
	wantDraw(t, b, 3, bytes[:3], api.OK)
	wantDraw(t, a, 157, "", api.ErrEntropy)
	wantCounts(t, b, 253, 3)
	wantDraw(t, b, 253, bytes[3:], api.OK)
	if bytes != allBytes() {
		t.Fatal("what was handed to New has changed")
	}
}

// P1.2, P1.3

func TestDocumentsExamples(t *testing.T) {
	x := made(t, "abcdef")
	wantCounts(t, x, 6, 0)
	wantDraw(t, x, 2, "ab", api.OK)
	wantDraw(t, x, 0, "", api.OK)
	wantDraw(t, x, -1, "", api.ErrArg)
	wantCounts(t, x, 4, 2)
	wantDraw(t, x, 3, "cde", api.OK)
	wantDraw(t, x, 2, "", api.ErrEntropy)
	wantCounts(t, x, 0, 5)
	wantDraw(t, x, 1, "", api.ErrEntropy)
	wantDraw(t, x, 0, "", api.OK)
	wantCounts(t, x, 0, 5)
}

func TestEmptyTape(t *testing.T) {
	x := made(t, "")
	wantCounts(t, x, 0, 0)
	wantDraw(t, x, 0, "", api.OK)
	wantDraw(t, x, -1, "", api.ErrArg)
	wantDraw(t, x, 1, "", api.ErrEntropy)
	wantDraw(t, x, 0, "", api.OK)
	wantCounts(t, x, 0, 0)
}

func TestDrawOfAllThatIsLeft(t *testing.T) {
	x := made(t, "abcdef")
	wantDraw(t, x, 2, "ab", api.OK)
	wantDraw(t, x, 4, "cdef", api.OK)
	wantCounts(t, x, 0, 6)
	wantDraw(t, x, 0, "", api.OK)
	wantDraw(t, x, 1, "", api.ErrEntropy)
	wantCounts(t, x, 0, 6)
}

func TestDrawOfTooMuchLosesTheRest(t *testing.T) {
	for _, n := range []int{5, 6, 7, api.MaxTape + 1, math.MaxInt} {
		x := made(t, "abcdef")
		wantDraw(t, x, 2, "ab", api.OK)
		wantDraw(t, x, n, "", api.ErrEntropy)
		wantCounts(t, x, 0, 2)
		wantDraw(t, x, 1, "", api.ErrEntropy)
		wantDraw(t, x, 4, "", api.ErrEntropy)
		wantDraw(t, x, -1, "", api.ErrArg)
		wantDraw(t, x, 0, "", api.OK)
		wantCounts(t, x, 0, 2)
	}
}

func TestDrawBelowZeroChangesNothing(t *testing.T) {
	x := made(t, "abcdef")
	wantDraw(t, x, 1, "a", api.OK)
	for _, n := range []int{-1, -5, -6, math.MinInt} {
		wantDraw(t, x, n, "", api.ErrArg)
		wantCounts(t, x, 5, 1)
	}
	wantDraw(t, x, 5, "bcdef", api.OK)
}

// P1.2, P1.3, P1.4

func TestTapesThatAreNotThere(t *testing.T) {
	var none *Tape
	for _, x := range []*Tape{none, {}, new(Tape)} {
		for _, n := range []int{math.MinInt, -1, 0, 1, math.MaxInt} {
			wantDraw(t, x, n, "", api.ErrNil)
			wantCounts(t, x, 0, 0)
		}
	}
}

// P1.4

// model is a tape by the document's words, which keeps all of its bytes.
type model struct {
	bytes string
	drawn int
	lost  bool
}

func (m *model) left() int {
	if m.lost {
		return 0
	}
	return len(m.bytes) - m.drawn
}

func (m *model) draw(n int) (string, api.Errno) {
	switch {
	case n < 0:
		return "", api.ErrArg
	case n > m.left():
		m.lost = true
		return "", api.ErrEntropy
	case n == 0:
		return "", api.OK
	}
	m.drawn += n
	return m.bytes[m.drawn-n : m.drawn], api.OK
}

func TestAnyCallsAreAsTheModelSays(t *testing.T) {
	seed := uint32(1)
	below := func(n int) int {
		seed = seed*1664525 + 1013904223
		return int(seed>>8) % n
	}
	for range 3000 {
		bytes := allBytes()[below(200):][:below(57)]
		x, m := made(t, bytes), &model{bytes: bytes}
		other := made(t, bytes)
		for range 20 {
			n := below(12) - 2
			s, e := m.draw(n)
			wantDraw(t, x, n, s, e)
			wantCounts(t, x, m.left(), m.drawn)
			other.Draw(below(9) - 1)
		}
	}
}

// P1.5

func TestAllDrawsAreTheBeginningOfTheTape(t *testing.T) {
	bytes := allBytes()
	x := made(t, bytes)
	var drawn []string
	for n := range 40 {
		s, e := x.Draw(n % 18)
		if e == api.OK {
			drawn = append(drawn, s)
		}
		x.Draw(-1)
		if all := strings.Join(drawn, ""); all != bytes[:x.Drawn()] {
			t.Fatalf("behind Draw(%d): %q is not the beginning of the tape of %d bytes", n%18, all, x.Drawn())
		}
	}
	if x.Left() != 0 || x.Drawn() == 0 || x.Drawn() == len(bytes) {
		t.Fatalf("the draws were to run dry within the tape: %d left, %d drawn", x.Left(), x.Drawn())
	}
}

func TestTwoDrawsAreOneThatIsCut(t *testing.T) {
	const bytes = "\x00\xffabc\x80def"
	for a := range len(bytes) + 1 {
		for b := range len(bytes) + 1 - a {
			one, two := made(t, bytes), made(t, bytes)
			whole, e := one.Draw(a + b)
			if e != api.OK {
				t.Fatalf("Draw(%d): %d", a+b, e)
			}
			wantDraw(t, two, a, whole[:a], api.OK)
			wantDraw(t, two, b, whole[a:], api.OK)
			wantCounts(t, two, one.Left(), one.Drawn())
		}
	}
}

// Ways: the tape's own memory is wiped.

func TestWhatIsDrawnIsWiped(t *testing.T) {
	x := made(t, "abcdef")
	memory := x.reel.rest
	drawn, _ := x.Draw(4)
	if string(memory) != "\x00\x00\x00\x00ef" || drawn != "abcd" {
		t.Fatalf("behind Draw(4): %q in memory, %q drawn", memory, drawn)
	}
}

func TestWhatIsLostIsWiped(t *testing.T) {
	x := made(t, "abcdef")
	memory := x.reel.rest
	wantDraw(t, x, 1, "a", api.OK)
	wantDraw(t, x, 6, "", api.ErrEntropy)
	if string(memory) != "\x00\x00\x00\x00\x00\x00" {
		t.Fatalf("behind ErrEntropy: %q in memory", memory)
	}
}

func TestACopiedStructIsTheSameTape(t *testing.T) {
	x := made(t, "abcdef")
	y := *x
	wantDraw(t, x, 2, "ab", api.OK)
	wantDraw(t, &y, 2, "cd", api.OK)
	wantCounts(t, x, 2, 4)
}
