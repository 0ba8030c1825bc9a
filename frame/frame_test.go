package frame

import (
	"crypto/sha256"
	"encoding/binary"
	"encoding/hex"
	"fmt"
	"math"
	"math/rand"
	"slices"
	"strings"
	"sync"
	"testing"

	"casket/api"
)

const most = 1048576

// somewhat is a text of that many bytes, of all values.
func somewhat(n int) string {
	b := make([]byte, n)
	x := uint32(88172645)
	for i := range b {
		x ^= x << 13
		x ^= x >> 17
		x ^= x << 5
		b[i] = byte(x >> 11)
	}
	return string(b)
}

func zeroBytes(n int) string { return strings.Repeat("\x00", n) }

func raw(t *testing.T, digits string) string {
	t.Helper()
	b, err := hex.DecodeString(strings.ReplaceAll(digits, " ", ""))
	if err != nil {
		t.Fatal(err)
	}
	return string(b)
}

// shown spares the reader a million digits.
func shown(s string) string {
	if len(s) > 40 {
		return fmt.Sprintf("%x .. (%d bytes)", s[:40], len(s))
	}
	return fmt.Sprintf("%x", s)
}

func mustPadme(t *testing.T, n int) int {
	t.Helper()
	b, e := Padme(n)
	if e != api.OK {
		t.Fatalf("Padme(%d): %d", n, e)
	}
	return b
}

func mustPack(t *testing.T, kind int, body string, size int) string {
	t.Helper()
	f, e := Pack(kind, body, size)
	if e != api.OK {
		t.Fatalf("Pack(%d, %s, %d): %d", kind, shown(body), size, e)
	}
	return f
}

func wantPadme(t *testing.T, n, want int, fault api.Errno) {
	t.Helper()
	if b, e := Padme(n); b != want || e != fault {
		t.Errorf("Padme(%d): %d, %d, want %d, %d", n, b, e, want, fault)
	}
}

func wantSize(t *testing.T, n, least, want int, fault api.Errno) {
	t.Helper()
	if s, e := Size(n, least); s != want || e != fault {
		t.Errorf("Size(%d, %d): %d, %d, want %d, %d", n, least, s, e, want, fault)
	}
}

func wantPacked(t *testing.T, kind int, body string, size int, want string, fault api.Errno) {
	t.Helper()
	if f, e := Pack(kind, body, size); f != want || e != fault {
		t.Errorf("Pack(%d, %s, %d): %s, %d, want %s, %d", kind, shown(body), size, shown(f), e, shown(want), fault)
	}
}

func wantUnpacked(t *testing.T, kind int, frame, want string, fault api.Errno) {
	t.Helper()
	if b, e := Unpack(kind, frame); b != want || e != fault {
		t.Errorf("Unpack(%d, %s): %s, %d, want %s, %d", kind, shown(frame), shown(b), e, shown(want), fault)
	}
}

// first is the fault that is told where several apply.
func first(faults ...api.Errno) api.Errno {
	for _, e := range faults {
		if e != api.OK {
			return e
		}
	}
	return api.OK
}

func faultIf(wrong bool, e api.Errno) api.Errno {
	if wrong {
		return e
	}
	return api.OK
}

// What follows does the document's words once more, step by step, against which the program is held.

// plainE is the number with 2^e <= n < 2^(e+1), of a length from 1 on.
func plainE(n int) int {
	e := 0
	for 1<<(e+1) <= n {
		e++
	}
	return e
}

// plainS is the least number with 2^s > e.
func plainS(e int) int {
	s := 0
	for 1<<s <= e {
		s++
	}
	return s
}

func plainBucket(n int) int {
	if n == 0 || n == 1 {
		return n
	}
	e := plainE(n)
	step := 1 << (e - plainS(e))
	b := 0
	for b < n {
		b += step
	}
	return b
}

func plainFrame(kind int, body string, size int) string {
	f := []byte{byte(kind)}
	f = binary.BigEndian.AppendUint32(f, uint32(len(body)))
	f = append(f, body...)
	for len(f) < size {
		f = append(f, 0)
	}
	return string(f)
}

func plainPack(kind int, body string, size int) (string, api.Errno) {
	e := first(
		faultIf(kind < 1 || kind > 255, api.ErrHead),
		faultIf(size > 1048576, api.ErrBig),
		faultIf(len(body)+5 > size, api.ErrFits),
	)
	if e != api.OK {
		return "", e
	}
	return plainFrame(kind, body, size), api.OK
}

// plainUnpack looks at each byte behind the body by its number.
func plainUnpack(kind int, frame string) (string, api.Errno) {
	if len(frame) > 1048576 {
		return "", api.ErrBig
	}
	if kind < 1 || kind > 255 || len(frame) < 5 || int(frame[0]) != kind {
		return "", api.ErrHead
	}
	count := int64(binary.BigEndian.Uint32([]byte(frame[1:5])))
	if count > int64(len(frame)-5) {
		return "", api.ErrFits
	}
	end := 5 + int(count)
	for i := end; i < len(frame); i++ {
		if frame[i] != 0 {
			return "", api.ErrPad
		}
	}
	return frame[5:end], api.OK
}

func holdPack(t *testing.T, kind int, body string, size int) {
	t.Helper()
	want, fault := plainPack(kind, body, size)
	wantPacked(t, kind, body, size, want, fault)
}

func holdUnpack(t *testing.T, kind int, frame string) {
	t.Helper()
	want, fault := plainUnpack(kind, frame)
	wantUnpacked(t, kind, frame, want, fault)
}

// oddLengths are those at the edges, and far outside of them.
func oddLengths() []int {
	return []int{math.MinInt, math.MinInt + 1, math.MinInt32, -most, -6, -5, -4, -1, 0, 1, 2, 4, 5, 6, 16, 17, 255, 256, 65535, 65536,
		most - 6, most - 5, most - 4, most - 1, most, most + 1, most + 5, 1<<21 - 1, math.MaxInt32, math.MaxInt32 + 1, math.MaxUint32, 1 << 32, 1<<32 + 7,
		math.MaxInt - 5, math.MaxInt - 4, math.MaxInt - 1, math.MaxInt}
}

func oddKinds() []int {
	return []int{math.MinInt, -256, -255, -1, 0, 1, 2, 3, 127, 128, 254, 255, 256, 257, 511, 512, 1 << 32, 1<<32 + 1, math.MaxInt - 254, math.MaxInt}
}

// P9.1

func TestPadmeExamples(t *testing.T) {
	for _, c := range [][2]int{
		{0, 0}, {1, 1}, {7, 7}, {8, 8}, {9, 10}, {17, 18}, {33, 36}, {100, 104},
		{1000, 1024}, {1025, 1088}, {65536, 65536}, {65537, 67584}, {1048575, 1048576}, {1048576, 1048576},
	} {
		wantPadme(t, c[0], c[1], api.OK)
	}
	wantPadme(t, -1, 0, api.ErrArg)
	wantPadme(t, 1048577, 0, api.ErrBig)
}

func TestPadmeOfLengthsThatMayNotBe(t *testing.T) {
	for _, n := range oddLengths() {
		switch {
		case n < 0:
			wantPadme(t, n, 0, api.ErrArg)
		case n > 1048576:
			wantPadme(t, n, 0, api.ErrBig)
		default:
			wantPadme(t, n, plainBucket(n), api.OK)
		}
	}
}

func TestEveryBucketIsTheDocuments(t *testing.T) {
	for n := range most + 1 {
		if b := mustPadme(t, n); b != plainBucket(n) {
			t.Fatalf("Padme(%d): %d, want %d", n, b, plainBucket(n))
		}
	}
}

// The sum is that of the buckets of all lengths from 0 to MaxBlob, four bytes each, the highest first, as another program
// made them by the rule of those who thought of these buckets: as many low digits are 0 as e has above floor(log2(e)) + 1.
func TestEveryBucketIsAnotherPrograms(t *testing.T) {
	var all []byte
	for n := range most + 1 {
		all = binary.BigEndian.AppendUint32(all, uint32(mustPadme(t, n)))
	}
	if sum := sha256.Sum256(all); hex.EncodeToString(sum[:]) != "20e0d4780ef7c66ac88457997703dce6a643c9fe48fd9dd4575206e01255f0d8" {
		t.Errorf("the buckets' sum is %x", sum)
	}
}

func TestNoBucketIsAboveMaxBlob(t *testing.T) {
	for n := range most + 1 {
		if b := mustPadme(t, n); b > api.MaxBlob {
			t.Fatalf("Padme(%d): %d", n, b)
		}
	}
}

// P9.2

func TestSizeExamples(t *testing.T) {
	for _, c := range [][3]int{
		{0, 16, 16}, {11, 16, 16}, {12, 16, 18}, {0, 0, 5}, {0, 100, 104}, {95, 100, 104}, {100, 100, 112}, {1048571, 0, 1048576},
	} {
		wantSize(t, c[0], c[1], c[2], api.OK)
	}
	wantSize(t, -1, 16, 0, api.ErrArg)
	wantSize(t, 0, -1, 0, api.ErrArg)
	wantSize(t, 1048572, 0, 0, api.ErrBig)
	wantSize(t, 0, 1048577, 0, api.ErrBig)
	wantSize(t, -1, 1048577, 0, api.ErrArg)
}

func TestSizeTellsTheFirstFault(t *testing.T) {
	for _, n := range oddLengths() {
		for _, least := range oddLengths() {
			fault := first(faultIf(n < 0 || least < 0, api.ErrArg), faultIf(n > 1048571 || least > 1048576, api.ErrBig))
			want := 0
			if fault == api.OK {
				want = plainBucket(max(n+5, least))
			}
			wantSize(t, n, least, want, fault)
		}
	}
}

func TestSizeIsTheBucketOfTheGreaterOne(t *testing.T) {
	for n := range 300 {
		for least := range 300 {
			wantSize(t, n, least, plainBucket(max(n+5, least)), api.OK)
		}
	}
	some := rand.New(rand.NewSource(92))
	for range 20000 {
		n, least := some.Intn(most-4), some.Intn(most+1)
		wantSize(t, n, least, plainBucket(max(n+5, least)), api.OK)
	}
}

func TestNoFrameIsShorterThanTheBucketOfLeast(t *testing.T) {
	for _, least := range []int{0, 1, 5, 16, 100, 4097, most} {
		floor := mustPadme(t, least)
		for _, n := range []int{0, 1, 11, 90, 95, 96, 5000, most - 5} {
			if s, e := Size(n, least); s < floor || s < n+Head || e != api.OK {
				t.Errorf("Size(%d, %d): %d, %d", n, least, s, e)
			}
		}
	}
}

// P9.3

func TestHeadIsFiveBytes(t *testing.T) {
	if Head != 5 {
		t.Errorf("Head: %d", Head)
	}
}

func TestPackExamples(t *testing.T) {
	wantPacked(t, 1, "ab", 10, raw(t, "01 00 00 00 02 61 62 00 00 00"), api.OK)
	wantPacked(t, 1, "", 5, raw(t, "01 00 00 00 00"), api.OK)
	wantPacked(t, 255, "", 6, raw(t, "ff 00 00 00 00 00"), api.OK)
	wantPacked(t, 0, "", 5, "", api.ErrHead)
	wantPacked(t, 256, "", 5, "", api.ErrHead)
	wantPacked(t, 0, "", 1048577, "", api.ErrHead)
	wantPacked(t, 1, "", 1048577, "", api.ErrBig)
	wantPacked(t, 1, "", 4, "", api.ErrFits)
	wantPacked(t, 1, "a", 5, "", api.ErrFits)
	wantPacked(t, 1, "", -1, "", api.ErrFits)
}

func TestPackTellsTheFirstFault(t *testing.T) {
	for _, kind := range oddKinds() {
		for _, body := range []string{"", "a", "\x00", zeroBytes(11), somewhat(251), somewhat(most - 5), somewhat(most - 4), somewhat(most + 1)} {
			for _, size := range oddLengths() {
				holdPack(t, kind, body, size)
			}
		}
	}
}

func TestPackOfEachKind(t *testing.T) {
	for kind := 1; kind <= 255; kind++ {
		wantPacked(t, kind, "body", 12, string([]byte{byte(kind)})+"\x00\x00\x00\x04body\x00\x00\x00", api.OK)
	}
}

func TestEachByteOfTheNumber(t *testing.T) {
	for _, n := range []int{0, 1, 127, 128, 255, 256, 257, 32768, 65535, 65536, 65537, 66051, 70000, most - 5} {
		body := somewhat(n)
		for _, more := range []int{0, 1, 2, 300} {
			holdPack(t, 3, body, Head+n+more)
		}
	}
	head := mustPack(t, 3, somewhat(0x0a0b0c), 0x0a0b0c+Head)[:Head]
	if head != "\x03\x00\x0a\x0b\x0c" {
		t.Errorf("the head of a body of 0a0b0c bytes: %x", head)
	}
}

func TestABodyIsLaidDownAsItIs(t *testing.T) {
	every := make([]byte, 256)
	for i := range every {
		every[i] = byte(i)
	}
	for _, body := range []string{"\x00", "\x00\x00\x00", "a\x00", "\xff\xfe", "\xc0\x80", "é", string(every)} {
		holdPack(t, 9, body, len(body)+5)
		holdPack(t, 9, body, len(body)+8)
	}
}

// P9.4

func TestUnpackExamples(t *testing.T) {
	two := raw(t, "01 00 00 00 02 61 62 00 00 00")
	wantUnpacked(t, 1, two, "ab", api.OK)
	wantUnpacked(t, 2, two, "", api.ErrHead)
	wantUnpacked(t, 1, two[:9], "ab", api.OK)
	wantUnpacked(t, 1, two[:6], "", api.ErrFits)
	wantUnpacked(t, 1, two[:4], "", api.ErrHead)
	wantUnpacked(t, 1, "", "", api.ErrHead)
	wantUnpacked(t, 1, raw(t, "01 00 00 00 02 61 62 00 01 00"), "", api.ErrPad)
	wantUnpacked(t, 1, raw(t, "01 00 00 00 00 61"), "", api.ErrPad)
	wantUnpacked(t, 1, raw(t, "01 80 00 00 00"), "", api.ErrFits)
	wantUnpacked(t, 0, raw(t, "00 00 00 00 00"), "", api.ErrHead)
	wantUnpacked(t, 1, strings.Repeat("\x01", 1048577), "", api.ErrBig)
}

// someFrames are texts of which each has some of the faults that a frame may have, or none.
func someFrames() []string {
	var fs []string
	for _, kind := range []int{0, 1, 2, 255} {
		for _, body := range []string{"", "a", "abc"} {
			whole := plainFrame(kind, body, 12)
			fs = append(fs, whole, whole[:11]+"\x01", whole[:8]+"\x00\xff\x00\x00", whole[:5], whole[:6], whole[:4], whole[:1])
		}
		k := string([]byte{byte(kind)})
		for _, count := range []string{"\x80\x00\x00\x00", "\xff\xff\xff\xff", "\x7f\xff\xff\xff", "\x01\x00\x00\x01", "\x00\x01\x00\x00", "\x00\x00\x01\x00", "\x00\x10\x00\x00"} {
			fs = append(fs, k+count, k+count+"a", k+count+zeroBytes(9))
		}
		for _, size := range []int{most - 1, most, most + 1} {
			whole := plainFrame(kind, "body", size)
			fs = append(fs, whole, whole[:size-1]+"\x01", plainFrame(kind, somewhat(size-Head), size))
			fs = append(fs, k+"\x00\x10\x00\x00"+zeroBytes(size-Head), k+"\xff\xff\xff\xff"+zeroBytes(size-Head))
		}
	}
	return append(fs, "", "\x00", "\x01", zeroBytes(4), zeroBytes(5), zeroBytes(2*most), strings.Repeat("\x01", most+1))
}

func TestUnpackTellsTheFirstFault(t *testing.T) {
	for _, frame := range someFrames() {
		for _, kind := range oddKinds() {
			holdUnpack(t, kind, frame)
		}
	}
}

// A frame whose body leaves no room, of more than the limit: that it is too long is told ahead of everything else.
func TestUnpackTellsTheLimitAheadOfTheHead(t *testing.T) {
	for _, kind := range []int{0, 1, 256} {
		wantUnpacked(t, kind, zeroBytes(1048577), "", api.ErrBig)
		wantUnpacked(t, kind, "\x02\xff\xff\xff\xff"+strings.Repeat("x", 1048572), "", api.ErrBig)
	}
}

func TestOneByteBehindTheBodyIsEnough(t *testing.T) {
	whole := []byte(plainFrame(7, "body", 16))
	for place := 9; place < 16; place++ {
		for value := 1; value < 256; value++ {
			f := slices.Clone(whole)
			f[place] = byte(value)
			wantUnpacked(t, 7, string(f), "", api.ErrPad)
		}
	}
}

// What lies behind the body is ranged over as text: none that is not zeros may look like them.
func TestTextBehindTheBodyIsNotZeros(t *testing.T) {
	for _, piece := range []string{"\xc0\x80", "\xe0\x80\x80", "\xf0\x80\x80\x80", "\xef\xbf\xbd", "\xc0", "\x80", "\xff", "é", "\xed\xa0\x80", "\xf4\x90\x80\x80", "\u0100", "\U00010000"} {
		for before := range 3 {
			for behind := range 3 {
				wantUnpacked(t, 1, plainFrame(1, "b", 6+before)+piece+zeroBytes(behind), "", api.ErrPad)
			}
		}
	}
}

func TestTheLastByteOfALongFrame(t *testing.T) {
	for _, n := range []int{0, 1, 60000, most - 6} {
		whole := plainFrame(1, somewhat(n), most)
		wantUnpacked(t, 1, whole, whole[Head:Head+n], api.OK)
		wantUnpacked(t, 1, whole[:most-1]+"\x01", "", api.ErrPad)
		wantUnpacked(t, 1, whole[:most-1]+"\x80", "", api.ErrPad)
	}
}

// eachText goes through all texts of that many bytes out of a few.
func eachText(n int, so string, visit func(string)) {
	if n == 0 {
		visit(so)
		return
	}
	for _, b := range []string{"\x00", "\x01", "\x02", "\x80", "\xff"} {
		eachText(n-1, so+b, visit)
	}
}

// One text says one body: whatever is taken is what Pack writes.
func TestUnpackTakesJustWhatPackWrites(t *testing.T) {
	for n := range 9 {
		taken := 0
		eachText(n, "", func(frame string) {
			holdUnpack(t, 1, frame)
			if body, e := Unpack(1, frame); e == api.OK {
				taken++
				wantPacked(t, 1, body, n, frame, api.OK)
			}
		})
		want := 0
		for body, of := 0, 1; body <= min(n-Head, 2); body, of = body+1, of*5 {
			want += of
		}
		if taken != want {
			t.Errorf("of texts of %d bytes %d are taken, want %d", n, taken, want)
		}
	}
}

func TestWhatWasPackedIsUnpacked(t *testing.T) {
	some := rand.New(rand.NewSource(94))
	for range 3000 {
		n := some.Intn(1 << some.Intn(16))
		kind, body := 1+some.Intn(255), somewhat(n + 3)[3:]
		f := mustPack(t, kind, body, Head+n+some.Intn(300))
		wantUnpacked(t, kind, f, body, api.OK)
		wantUnpacked(t, kind%255+1, f, "", api.ErrHead)
	}
	for _, n := range []int{0, 1, most - 6, most - 5} {
		wantUnpacked(t, 255, mustPack(t, 255, somewhat(n), most), somewhat(n), api.OK)
	}
}

func TestTextsOfAnySort(t *testing.T) {
	some := rand.New(rand.NewSource(95))
	for range 20000 {
		b := make([]byte, some.Intn(24))
		some.Read(b)
		if len(b) >= Head {
			copy(b, []byte{1, 0, 0, 0, byte(some.Intn(24))})
		}
		clear(b[min(len(b), Head+some.Intn(24)):])
		holdUnpack(t, some.Intn(3), string(b))
	}
}

// P9.5

func TestABucketIsItsOwnBucket(t *testing.T) {
	for n := range most + 1 {
		b := mustPadme(t, n)
		if again := mustPadme(t, b); again != b {
			t.Fatalf("Padme(%d): %d, of which Padme is %d", n, b, again)
		}
	}
}

func TestAGreaterLengthHasNoSmallerBucket(t *testing.T) {
	last := 0
	for n := range most + 1 {
		b := mustPadme(t, n)
		if b < n || b < last {
			t.Fatalf("Padme(%d): %d, behind %d", n, b, last)
		}
		last = b
	}
}

func TestLittleIsLost(t *testing.T) {
	for n := 1; n <= most; n++ {
		if b := mustPadme(t, n); (b-n)*(plainE(n)+1) >= n {
			t.Fatalf("Padme(%d): %d", n, b)
		}
	}
}

func TestFewBuckets(t *testing.T) {
	for e := 1; e < 20; e++ {
		var all []int
		for n := 1 << e; n <= 1<<(e+1); n++ {
			all = append(all, mustPadme(t, n))
		}
		s := plainS(e)
		if got := len(slices.Compact(all)); got != 1<<s+1 {
			t.Errorf("from 2^%d up to 2^%d there are %d buckets, want %d", e, e+1, got, 1<<s+1)
		}
		if 1<<s > 2*e {
			t.Errorf("2^%d is above 2 times %d", s, e)
		}
	}
}

func TestBodiesOfOneSizeHaveFramesOfOneLength(t *testing.T) {
	for _, least := range []int{0, 16, 100, 1024} {
		for n := range 700 {
			size, e := Size(n, least)
			if e != api.OK {
				t.Fatalf("Size(%d, %d): %d", n, least, e)
			}
			if f := mustPack(t, 1, somewhat(n), size); len(f) != size {
				t.Fatalf("the frame of %d bytes has %d, want %d", n, len(f), size)
			}
		}
	}
}

// P9.6

func TestEveryCallEnds(t *testing.T) {
	texts := append(someFrames(), somewhat(most), somewhat(3*most))
	for _, n := range oddLengths() {
		Padme(n)
		for _, least := range oddLengths() {
			Size(n, least)
		}
	}
	for _, kind := range append(oddKinds(), oddLengths()...) {
		for _, text := range texts {
			Unpack(kind, text)
			for _, size := range []int{math.MinInt, -1, 0, 5, len(text) + 4, len(text) + 5, most, math.MaxInt} {
				Pack(kind, text, size)
			}
		}
	}
}

// answers are what some calls tell, in one text.
func answers() string {
	var all strings.Builder
	for n := -3; n < 200; n++ {
		fmt.Fprintln(&all, n)
		fmt.Fprintln(&all, told(Padme(n)), told(Size(n, 64)), told(Pack(n, "body", 3*n)), told(Unpack(n, plainFrame(n, "body", n))))
	}
	return all.String()
}

func told[T any](v T, e api.Errno) string { return fmt.Sprintf("%v %d", v, e) }

func TestAnswersHangOnArgumentsAlone(t *testing.T) {
	want := answers()
	var all sync.WaitGroup
	for range 8 {
		all.Go(func() {
			for range 5 {
				if got := answers(); got != want {
					t.Error("the same calls answer something else")
				}
			}
		})
	}
	all.Wait()
}
