package shares

import (
	"math"
	"slices"
	"strings"
	"sync"
	"testing"

	"casket/api"
)

// The examples of the chapter.

func TestExampleField(t *testing.T) {
	for _, c := range [][3]int{{0x57, 0x83, 0xc1}, {0x57, 0x13, 0xfe}, {0x02, 0x80, 0x1b}, {0, 0xff, 0}} {
		if p, e := Mul(c[0], c[1]); p != c[2] || e != api.OK {
			t.Errorf("Mul(%#x, %#x) = %#x, %d", c[0], c[1], p, e)
		}
	}
	for _, c := range [][2]int{{256, 1}, {1, -1}} {
		if p, e := Mul(c[0], c[1]); p != 0 || e != api.ErrArg {
			t.Errorf("Mul(%d, %d) = %d, %d", c[0], c[1], p, e)
		}
	}
	for _, c := range []struct {
		a, inverse int
		e          api.Errno
	}{{0x53, 0xca, api.OK}, {1, 1, api.OK}, {0, 0, api.ErrArg}, {256, 0, api.ErrArg}} {
		if i, e := Inv(c.a); i != c.inverse || e != c.e {
			t.Errorf("Inv(%d) = %d, %d", c.a, i, e)
		}
	}
}

func TestExampleSplits(t *testing.T) {
	m := (*dice).text(new(dice), 32)
	if l := made(t, m, 2, 1, id, ""); !slices.Equal(l, []string{plainShare(1, 1, id, m), plainShare(2, 1, id, m)}) {
		t.Errorf("k 1: %x", l)
	}
	for _, c := range []struct {
		master, coins string
		k             int
		values        string
	}{
		{zero, times(1, 32), 2, "\x01\x02\x03"},
		{five, times(1, 32), 2, "\x04\x07\x06"},
		{zero, times(1, 32) + times(2, 32), 3, "\x03\x0a\x09"},
	} {
		for i, s := range made(t, c.master, 3, c.k, id, c.coins) {
			if s != plainShare(i+1, c.k, id, times(c.values[i], 32)) {
				t.Errorf("k %d: share %d is %x", c.k, i+1, s)
			}
		}
	}
}

func TestExampleJoins(t *testing.T) {
	a, b := made(t, zero, 3, 2, id, times(1, 32)), made(t, five, 3, 2, id, times(1, 32))
	for i := range a {
		for j := range a {
			if i != j {
				isJoin(t, zero, api.OK, a[i], a[j])
			}
		}
	}
	isJoin(t, zero, api.OK, a...)
	isJoin(t, "", api.ErrFew, a[0])
	isJoin(t, "", api.ErrFew)
	isJoin(t, "", api.ErrTwice, a[0], a[0])
	isJoin(t, "", api.ErrSplit, a[0], a[1], b[2])
	if s, e := Join(a[0], b[1]); e != api.OK || len(s) != 32 || s == zero || s == five {
		t.Errorf("Join of two splits = %x, %d", s, e)
	}
	isJoin(t, "", api.ErrSplit, a[0], plainShare(2, 2, id[1:]+"x", times(2, 32)))
	isJoin(t, "", api.ErrSplit, a[0], plainShare(2, 3, id, times(2, 32)))
	isJoin(t, "", api.ErrForm, a[0], a[1][:50])
	isJoin(t, "", api.ErrCheck, a[0], turned(a[1], 50))
	isJoin(t, "", api.ErrField, a[0], plainShare(0, 2, id, times(2, 32)))
	isJoin(t, "", api.ErrField, a[0], plainShare(17, 2, id, times(2, 32)))
}

// turned is the text with a bit of one byte turned.
func turned(s string, at int) string {
	b := []byte(s)
	b[at] ^= 0x10
	return string(b)
}

func TestExampleExplain(t *testing.T) {
	a := made(t, zero, 3, 2, id, times(1, 32))
	isExplain(t, times(4, 32), api.OK, five, a[0])
	if l := made(t, five, 1+1, 2, id, times(4, 32)); l[0] != a[0] {
		t.Errorf("the share is %x, not %x", l[0], a[0])
	}
	isExplain(t, "", api.OK, zero)
	isExplain(t, "", api.ErrFew, zero, a[:2]...)
}

func TestExampleRefusals(t *testing.T) {
	for _, c := range []struct {
		master string
		n, k   int
		id     string
		coins  int
		e      api.Errno
	}{
		{zero[1:], 3, 2, id, 32, api.ErrKey},
		{zero, 17, 2, id, 32, api.ErrArg},
		{zero, 0, 1, id, 0, api.ErrArg},
		{zero, 3, 0, id, 0, api.ErrArg},
		{zero, 2, 3, id, 64, api.ErrArg},
		{zero, 3, 2, id[1:], 32, api.ErrArg},
		{zero, 3, 2, id, 31, api.ErrCoins},
	} {
		isRefused(t, c.e, c.master, c.n, c.k, c.id, times(9, c.coins))
	}
}

func isRefused(t *testing.T, want api.Errno, master string, n, k int, id, coins string) {
	t.Helper()
	if l, e := Split(master, n, k, id, coins); len(l) != 0 || e != want {
		t.Errorf("Split(%d bytes, n %d, k %d, id %d, %d coins): %d shares, %d, want %d", len(master), n, k, len(id), len(coins), len(l), e, want)
	}
}

func TestExampleSixteen(t *testing.T) {
	d := dice(16)
	m := d.text(32)
	l := made(t, m, 16, 16, id, d.text(480))
	isJoin(t, m, api.OK, l...)
	isJoin(t, "", api.ErrFew, l[1:]...)
	for left := range l {
		given := slices.Delete(slices.Clone(l), left, left+1)
		isShareOf(t, d.text(32), given)
	}
}

// isShareOf holds that the shares, one fewer than their k, are shares of that master key.
func isShareOf(t *testing.T, master string, given []string) {
	t.Helper()
	k := len(given) + 1
	coins, e := Explain(master, given...)
	if e != api.OK || len(coins) != 32*(k-1) {
		t.Fatalf("Explain: %d bytes, %d", len(coins), e)
	}
	again := made(t, master, 16, k, given[0][3:11], coins)
	for _, s := range given {
		if again[s[1]-1] != s {
			t.Errorf("k %d: share %d is another one", k, s[1])
		}
	}
}

// P26.1

func TestMulAndInvOfAll(t *testing.T) {
	for a := range 256 {
		for b := range 256 {
			if p, e := Mul(a, b); p != plainMul(a, b) || e != api.OK {
				t.Fatalf("Mul(%d, %d) = %d, %d, want %d", a, b, p, e, plainMul(a, b))
			}
		}
		if i, e := Inv(a); a > 0 && (i != plainInverses[a] || e != api.OK) {
			t.Errorf("Inv(%d) = %d, %d, want %d", a, i, e, plainInverses[a])
		}
	}
}

func TestMulAndInvOfNoBytes(t *testing.T) {
	for _, a := range []int{math.MinInt, math.MinInt32, -256, -255, -1, 256, 257, 511, 1 << 16, 1 << 32, 1<<32 + 1, math.MaxInt} {
		for _, b := range []int{0, 1, 2, 255, a} {
			if p, e := Mul(a, b); p != 0 || e != api.ErrArg {
				t.Errorf("Mul(%d, %d) = %d, %d", a, b, p, e)
			}
			if p, e := Mul(b, a); p != 0 || e != api.ErrArg {
				t.Errorf("Mul(%d, %d) = %d, %d", b, a, p, e)
			}
		}
		if i, e := Inv(a); i != 0 || e != api.ErrArg {
			t.Errorf("Inv(%d) = %d, %d", a, i, e)
		}
	}
	if i, e := Inv(0); i != 0 || e != api.ErrArg {
		t.Errorf("Inv(0) = %d, %d", i, e)
	}
}

// P26.2

func TestSplitOfAllSizes(t *testing.T) {
	d := dice(2)
	for n := 1; n <= 16; n++ {
		for k := 1; k <= n; k++ {
			master, id, coins := d.text(32), d.text(8), d.text(32*(k-1))
			want, _ := plainSplit(master, n, k, id, coins)
			if l := made(t, master, n, k, id, coins); !slices.Equal(l, want) {
				t.Errorf("n %d, k %d: %x, want %x", n, k, l, want)
			}
		}
	}
}

// TestSplitRefuses lays all faults beside one another, right and wrong: the first one is told.
func TestSplitRefuses(t *testing.T) {
	counts := map[api.Errno]int{}
	for _, master := range []int{0, 31, 32, 33, 64} {
		for _, n := range []int{math.MinInt, -1, 0, 1, 2, 15, 16, 17, 256, 257, math.MaxInt} {
			for _, k := range []int{math.MinInt, -15, -1, 0, 1, 2, 15, 16, 17, 256, 257, math.MaxInt} {
				for _, id := range []int{0, 7, 8, 9} {
					for _, coins := range []int{0, 1, 31, 32, 33, 447, 448, 449, 479, 480, 481, 512} {
						args := [3]string{times('m', master), times('i', id), times('c', coins)}
						l, e := Split(args[0], n, k, args[1], args[2])
						want, f := plainSplit(args[0], n, k, args[1], args[2])
						if e != f || !slices.Equal(l, want) {
							t.Fatalf("Split(%d bytes, n %d, k %d, id %d, %d coins): %d shares, %d, want %d", master, n, k, id, coins, len(l), e, f)
						}
						counts[e]++
					}
				}
			}
		}
	}
	for _, e := range []api.Errno{api.OK, api.ErrKey, api.ErrArg, api.ErrCoins} {
		if counts[e] < 10 {
			t.Errorf("%d was answered %d times", e, counts[e])
		}
	}
}

// P26.3, P26.4

// TestJoinAndExplainInStep deals shares of two splits that may be alike in all but their coins, spoils some of them, and
// holds both calls against the document's words.
func TestJoinAndExplainInStep(t *testing.T) {
	d := dice(34)
	joined, explained := map[api.Errno]int{}, map[api.Errno]int{}
	for range 6000 {
		list := dealt(t, &d)
		want, e := plainJoin(list)
		isJoin(t, want, e, list...)
		joined[e]++
		master := d.text(32)
		if d.below(9) == 0 {
			master = d.text(d.below(64))
		}
		want, e = plainExplain(master, list)
		isExplain(t, want, e, master, list...)
		explained[e]++
		if t.Failed() {
			return
		}
	}
	all := []api.Errno{api.OK, api.ErrFew, api.ErrForm, api.ErrCheck, api.ErrField, api.ErrSplit, api.ErrTwice}
	for _, e := range all {
		if joined[e] < 100 || explained[e] < 100 {
			t.Errorf("%d was answered %d times by Join, %d times by Explain", e, joined[e], explained[e])
		}
	}
	if explained[api.ErrKey] < 100 {
		t.Errorf("%d keys were wrong", explained[api.ErrKey])
	}
}

// dealt is some shares in some order: often about as many as their k.
func dealt(t *testing.T, d *dice) []string {
	k := 1 + d.below(16)
	if d.below(2) == 0 {
		k = 1 + d.below(4)
	}
	n := k + d.below(17-k)
	id := d.text(8)
	list := d.shuffled(made(t, d.text(32), n, k, id, d.text(32*(k-1))), max(0, min(n, k-1+d.below(4))))
	for range d.below(3) {
		if len(list) > 0 {
			spoil(d, list, d.below(len(list)))
		}
	}
	if d.below(12) == 0 && len(list) > 0 {
		list = append(list, list[d.below(len(list))])
	}
	return list
}

func spoil(d *dice, list []string, at int) {
	s := list[at]
	if len(s) != 51 {
		return
	}
	x, k, id, values := int(s[1]), int(s[2]), s[3:11], s[11:43]
	switch d.below(14) {
	case 0:
		s = s[:d.below(51)]
	case 1:
		s += d.text(1 + d.below(3))
	case 2:
		s = "s" + s[1:]
	case 3:
		s = turned(s, 43+d.below(8))
	case 4:
		s = turned(s, 1+d.below(42))
	case 5:
		s = plainShare([]int{0, 17, 255, d.below(256)}[d.below(4)], k, id, values)
	case 6:
		s = plainShare(x, []int{0, 17, 255, d.below(256)}[d.below(4)], id, values)
	case 7:
		s = plainShare(x, 1+d.below(16), id, values)
	case 8:
		s = plainShare(x, k, turned(id, d.below(8)), values)
	case 9, 10:
		s = plainShare(1+d.below(16), k, id, values)
	case 11:
		s = plainShare(x, k, id, turned(values, d.below(32)))
	}
	list[at] = s
}

// TestEachByteOfAShare turns each byte of one, with and without its right sum.
func TestEachByteOfAShare(t *testing.T) {
	l := made(t, five, 3, 2, id, times(1, 32))
	for at := range 51 {
		bad := turned(l[1], at)
		e := api.ErrCheck
		if at == 0 {
			e = api.ErrForm
		}
		isJoin(t, "", e, l[0], bad)
		isJoin(t, "", e, bad, l[0])
		isExplain(t, "", e, five, bad)
		if at < 1 || at >= 43 {
			continue
		}
		whole := plainShare(int(bad[1]), int(bad[2]), bad[3:11], bad[11:43])
		e = api.ErrSplit
		if at < 3 {
			e = api.ErrField
		}
		isJoin(t, "", e, l[0], whole, l[2])
		isJoin(t, "", e, l[0], l[2], whole)
	}
}

func TestEveryLengthOfAShare(t *testing.T) {
	l := made(t, five, 2, 1, id, "")
	long := l[1] + l[1]
	for n := range 103 {
		e := api.ErrForm
		if n == 51 {
			e = api.OK
		}
		want := five
		if e != api.OK {
			want = ""
		}
		isJoin(t, want, e, long[:n])
		isJoin(t, want, e, l[0], long[:n])
	}
	isJoin(t, "", api.ErrForm, strings.Repeat(l[0], 1<<14))
}

func TestEveryNumberAndK(t *testing.T) {
	for x := range 256 {
		for k := range 256 {
			s := plainShare(x, k, id, five)
			want, e := plainJoin([]string{s})
			isJoin(t, want, e, s)
			want, e = plainExplain(zero, []string{s})
			isExplain(t, want, e, zero, s)
		}
	}
}

// TestFirstFaultIsTold lays texts with all faults in all orders: of texts that are no shares the first one's is told,
// ahead of what is asked of all together.
func TestFirstFaultIsTold(t *testing.T) {
	good := made(t, five, 2, 2, id, times(1, 32))
	texts := []string{
		good[0], good[1], good[1], "", "s" + turned(good[1], 50)[1:], plainShare(0, 17, id, five), turned(plainShare(0, 2, id, five), 50),
		plainShare(1, 3, id, five), plainShare(3, 2, "12345678", five),
	}
	for a := range texts {
		for b := range texts {
			for c := range texts {
				list := []string{texts[a], texts[b], texts[c]}
				for n := range 4 {
					want, e := plainJoin(list[:n])
					isJoin(t, want, e, list[:n]...)
					for _, master := range []string{zero, zero[1:], ""} {
						want, e = plainExplain(master, list[:n])
						isExplain(t, want, e, master, list[:n]...)
					}
				}
			}
		}
	}
}

func TestFewAndMany(t *testing.T) {
	d := dice(3)
	for k := 1; k <= 16; k++ {
		m := d.text(32)
		l := d.shuffled(made(t, m, 16, k, id, d.text(32*(k-1))), 16)
		for n := range 17 {
			want, e := m, api.OK
			if n < k {
				want, e = "", api.ErrFew
			}
			isJoin(t, want, e, l[:n]...)
			if n > 0 && n != k-1 {
				isExplain(t, "", api.ErrFew, m, l[:n]...)
			}
		}
		isJoin(t, "", api.ErrTwice, append(l, l[0])...)
	}
}

// TestOneWrongAmongMany turns one value of one share: wherever it stands, more than k of them do not lie on one line.
func TestOneWrongAmongMany(t *testing.T) {
	d := dice(33)
	for k := 1; k < 16; k++ {
		for n := k + 1; n <= 16; n++ {
			l := d.shuffled(made(t, d.text(32), 16, k, id, d.text(32*(k-1))), n)
			at := d.below(n)
			s := l[at]
			l[at] = plainShare(int(s[1]), k, id, turned(s[11:43], d.below(32)))
			isJoin(t, "", api.ErrSplit, l...)
			isJoin(t, "", api.ErrSplit, d.shuffled(l, n)...)
		}
	}
}

// TestCoinsAreJustOneText tries all coins there are, place by place.
func TestCoinsAreJustOneText(t *testing.T) {
	d := dice(4)
	master, id := d.text(32), d.text(8)
	given := d.shuffled(made(t, d.text(32), 16, 3, id, d.text(64)), 2)
	coins, e := Explain(master, given...)
	if e != api.OK || len(coins) != 64 {
		t.Fatalf("Explain: %d bytes, %d", len(coins), e)
	}
	for _, j := range []int{0, 1, 30, 31} {
		found := 0
		for one := range 256 {
			for two := range 256 {
				c := []int{int(master[j]), one, two}
				if plainValue(c, int(given[0][1])) == int(given[0][11+j]) && plainValue(c, int(given[1][1])) == int(given[1][11+j]) {
					found++
					if coins[j] != byte(one) || coins[32+j] != byte(two) {
						t.Errorf("place %d: the coins are %d, %d", j, one, two)
					}
				}
			}
		}
		if found != 1 {
			t.Errorf("place %d: %d texts of coins", j, found)
		}
	}
}

// P26.5

// TestAnyShares takes all choices of the shares of small splits, in some order.
func TestAnyShares(t *testing.T) {
	d := dice(5)
	for n := 1; n <= 6; n++ {
		for k := 1; k <= n; k++ {
			m, id, coins := d.text(32), d.text(8), d.text(32*(k-1))
			l := made(t, m, n, k, id, coins)
			for choice := range 1 << n {
				var given []string
				for i := range l {
					if choice>>i&1 == 1 {
						given = append(given, l[i])
					}
				}
				given = d.shuffled(given, len(given))
				if len(given) >= k {
					isJoin(t, m, api.OK, given...)
				}
				if len(given) == k-1 && k > 1 {
					isExplain(t, coins, api.OK, m, given...)
					isShareOf(t, d.text(32), given)
					isShareOf(t, zero, given)
				}
			}
		}
	}
}

// TestSharesOfEveryKey: a key that fewer shares are explained by is the one that they give with one share more of it.
func TestSharesOfEveryKey(t *testing.T) {
	d := dice(55)
	for k := 2; k <= 16; k++ {
		id := d.text(8)
		given := d.shuffled(made(t, d.text(32), 16, k, id, d.text(32*(k-1))), k-1)
		for range 8 {
			m := d.text(32)
			isShareOf(t, m, given)
			coins, _ := Explain(m, given...)
			for _, s := range made(t, m, 16, k, id, coins) {
				if !slices.Contains(given, s) {
					isJoin(t, m, api.OK, append([]string{s}, given...)...)
				}
			}
		}
	}
}

// P26.6

func TestFieldOfAll(t *testing.T) {
	var mul [256][256]byte
	for a := range 256 {
		for b := range 256 {
			p, e := Mul(a, b)
			if e != api.OK || p < 0 || p > 255 {
				t.Fatalf("Mul(%d, %d) = %d, %d", a, b, p, e)
			}
			mul[a][b] = byte(p)
		}
	}
	for a := range 256 {
		if mul[a][1] != byte(a) || mul[a][0] != 0 {
			t.Fatalf("%d times 1 is %d, times 0 %d", a, mul[a][1], mul[a][0])
		}
		if i, _ := Inv(a); a > 0 && mul[a][i] != 1 {
			t.Fatalf("%d times its inverse is %d", a, mul[a][i])
		}
		for b := range 256 {
			if mul[a][b] != mul[b][a] || mul[a][b] == 0 && a != 0 && b != 0 {
				t.Fatalf("%d times %d is %d", a, b, mul[a][b])
			}
			for c := range 256 {
				if mul[mul[a][b]][c] != mul[a][mul[b][c]] || mul[a][b^c] != mul[a][b]^mul[a][c] {
					t.Fatalf("%d, %d, %d: the product hangs on how they are grouped", a, b, c)
				}
			}
		}
	}
}

// P26.7

func TestListsAreLeftAsTheyWere(t *testing.T) {
	d := dice(7)
	l := made(t, five, 6, 4, id, d.text(96))
	for n := range 7 {
		room := append(d.shuffled(l, 6), "behind", "it")
		was := slices.Clone(room)
		Join(room[:n]...)
		Explain(zero, room[:n]...)
		if !slices.Equal(room, was) {
			t.Fatalf("of %d shares the list became %x", n, room)
		}
	}
}

func TestAnswersAreNewMemory(t *testing.T) {
	coins := times(1, 32)
	a, b := made(t, five, 3, 2, id, coins), made(t, five, 3, 2, id, coins)
	was := slices.Clone(a)
	for i := range b {
		b[i] = "x"
	}
	_ = append(b[:1], "y", "z", "w")
	if !slices.Equal(a, was) || !slices.Equal(made(t, five, 3, 2, id, coins), was) {
		t.Error("two answers have one memory")
	}
}

func TestNilAndEmpty(t *testing.T) {
	isJoin(t, "", api.ErrFew)
	isJoin(t, "", api.ErrFew, []string{}...)
	isJoin(t, "", api.ErrForm, "")
	isExplain(t, "", api.OK, zero)
	isExplain(t, "", api.OK, zero, []string{}...)
	isExplain(t, "", api.ErrForm, zero, "")
	isExplain(t, "", api.ErrKey, "")
	isRefused(t, api.ErrKey, "", 0, 0, "", "")
	isRefused(t, api.ErrArg, zero, 0, 0, "", "")
}

// TestManyTexts has more of them than there are numbers.
func TestManyTexts(t *testing.T) {
	l := made(t, five, 16, 2, id, times(1, 32))
	var many []string
	for range 1 << 14 {
		many = append(many, l...)
	}
	areRefused := func(e api.Errno, list []string) {
		t.Helper()
		if s, f := Join(list...); s != "" || f != e {
			t.Errorf("Join of %d texts = %x, %d, want %d", len(list), s, f, e)
		}
		if s, f := Explain(zero, list...); s != "" || f != e {
			t.Errorf("Explain of %d texts = %x, %d, want %d", len(list), s, f, e)
		}
	}
	areRefused(api.ErrTwice, many)
	areRefused(api.ErrSplit, append(slices.Clone(many), plainShare(1, 2, "other id", five)))
	areRefused(api.ErrForm, append(slices.Clone(many), "x"))
}

func TestSideBySide(t *testing.T) {
	d := dice(77)
	m, coins := d.text(32), d.text(32*4)
	l := made(t, m, 9, 5, id, coins)
	var group sync.WaitGroup
	for at := range 8 {
		group.Go(func() {
			for range 50 {
				again, e := Split(m, 9, 5, id, coins)
				if e != api.OK || !slices.Equal(again, l) {
					t.Error("Split has another answer")
				}
				if s, e := Join(l[at%4 : at%4+5]...); s != m || e != api.OK {
					t.Errorf("Join = %x, %d", s, e)
				}
				if s, e := Explain(m, l[at%5:at%5+4]...); s != coins || e != api.OK {
					t.Errorf("Explain = %x, %d", s, e)
				}
			}
		})
	}
	group.Wait()
}
