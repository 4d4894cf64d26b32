package chain

import (
	"bytes"
	"math"
	"math/big"
	"slices"
	"testing"

	"tympan/api"
)

// numbers are those about 0, about which the number of bytes changes, and about
// both ends of the range.
func numbers() []int64 {
	l := []int64{math.MinInt64, math.MinInt64 + 1, math.MaxInt64 - 1, math.MaxInt64, 123456789, -987654321}
	for k := range 63 {
		for _, d := range []int64{-2, -1, 0, 1, 2} {
			l = append(l, 1<<k+d, -(1<<k + d))
		}
	}
	return l
}

// exactFold counts by the text of the definition: 2n for n from 0 on, and
// -2n - 1 below 0.
func exactFold(n int64) *big.Int {
	b := big.NewInt(n)
	b.Lsh(b, 1)
	if n < 0 {
		b.Neg(b)
		b.Sub(b, big.NewInt(1))
	}
	return b
}

// exactChain divides by 128 again and again, by the text of the definition.
func exactChain(n int64) []byte {
	u, base, group := exactFold(n), big.NewInt(128), new(big.Int)
	var out []byte
	for {
		u.DivMod(u, base, group)
		if u.Sign() == 0 {
			return append(out, byte(group.Int64()))
		}
		out = append(out, byte(group.Int64())+128)
	}
}

// exactGet takes the errors one by one, by the text of the promise, and then
// the number in exact arithmetic.
func exactGet(b []byte, at int) (int64, int, api.Errno) {
	if at < 0 || at > len(b) {
		return 0, 0, api.ErrArg
	}
	rest := b[at:]
	end := slices.IndexFunc(rest, func(c byte) bool { return c < 128 })
	long := len(rest) >= 10 && (end < 0 || end >= 10)
	wide := end == 9 && rest[9] > 1
	if long || wide || end < 0 || end > 0 && rest[end] == 0 {
		return 0, 0, api.ErrForm
	}
	u := new(big.Int)
	for _, c := range slices.Backward(rest[:end+1]) {
		u.Mul(u, big.NewInt(128))
		u.Add(u, big.NewInt(int64(c%128)))
	}
	n := new(big.Int).Rsh(u, 1)
	if u.Bit(0) == 1 {
		n.Add(n, big.NewInt(1))
		n.Neg(n)
	}
	return n.Int64(), at + end + 1, api.OK
}

// long is a byte of 128 or more, many times.
func long(c byte, times int, after ...byte) []byte {
	return append(bytes.Repeat([]byte{c}, times), after...)
}

func checkGet(t *testing.T, b []byte, at int, n int64, next int, e api.Errno) {
	t.Helper()
	kept := slices.Clone(b)
	gotN, gotNext, gotE := Get(b, at)
	if gotN != n || gotNext != next || gotE != e {
		t.Errorf("Get(%v, %d): %d, %d, %d, want %d, %d, %d", b, at, gotN, gotNext, gotE, n, next, e)
	}
	if !bytes.Equal(b, kept) {
		t.Errorf("Get(%v, %d) has changed its bytes: %v", kept, at, b)
	}
}

func TestExamples(t *testing.T) { // P5.1
	for _, x := range []struct {
		n    int64
		want []byte
	}{
		{0, []byte{0}}, {-1, []byte{1}}, {64, []byte{128, 1}}, {1, []byte{2}},
		{63, []byte{126}}, {-64, []byte{127}}, {-65, []byte{129, 1}},
		{8191, []byte{254, 127}}, {-8192, []byte{255, 127}},
		{8192, []byte{128, 128, 1}}, {-8193, []byte{129, 128, 1}},
		{math.MinInt64, long(255, 9, 1)},
		{math.MaxInt64, append([]byte{254}, long(255, 8, 1)...)},
	} {
		if got := Put(nil, x.n); !bytes.Equal(got, x.want) {
			t.Errorf("Put(nil, %d): %v, want %v", x.n, got, x.want)
		}
		if got := Size(x.n); got != len(x.want) {
			t.Errorf("Size(%d): %d, want %d", x.n, got, len(x.want))
		}
		checkGet(t, x.want, 0, x.n, len(x.want), api.OK)
	}
}

func TestFold(t *testing.T) { // P5.1
	for _, x := range []struct {
		n int64
		u uint64
	}{
		{0, 0}, {-1, 1}, {1, 2}, {-2, 3}, {2, 4}, {-3, 5}, {3, 6},
		{math.MaxInt64, math.MaxUint64 - 1}, {math.MinInt64, math.MaxUint64},
		{math.MaxInt64 - 1, math.MaxUint64 - 3}, {math.MinInt64 + 1, math.MaxUint64 - 2},
		{1 << 62, 1 << 63}, {-1 << 62, 1<<63 - 1},
	} {
		if got := Fold(x.n); got != x.u {
			t.Errorf("Fold(%d): %d, want %d", x.n, got, x.u)
		}
		if got := Unfold(x.u); got != x.n {
			t.Errorf("Unfold(%d): %d, want %d", x.u, got, x.n)
		}
	}
}

func TestFoldAndUnfoldAreInverse(t *testing.T) { // P5.1
	for _, n := range numbers() {
		u := Fold(n)
		if want := exactFold(n); !want.IsUint64() || u != want.Uint64() {
			t.Errorf("Fold(%d): %d, want %d", n, u, want)
		}
		if got := Unfold(u); got != n {
			t.Errorf("Unfold(Fold(%d)): %d", n, got)
		}
		for _, v := range []uint64{uint64(n), ^uint64(n)} {
			if got := Fold(Unfold(v)); got != v {
				t.Errorf("Fold(Unfold(%d)): %d", v, got)
			}
		}
	}
}

func TestPutAndSize(t *testing.T) { // P5.1
	for _, n := range numbers() {
		want := exactChain(n)
		if got := Size(n); got != len(want) {
			t.Errorf("Size(%d): %d, want %d", n, got, len(want))
		}
		for _, b := range [][]byte{nil, {}, {7}, {0, 128, 255}, long(200, 12)} {
			kept := slices.Clone(b)
			got := Put(b, n)
			if !bytes.Equal(got, slices.Concat(kept, want)) {
				t.Errorf("Put(%v, %d): %v, want the chain %v", kept, n, got, want)
			}
			if !bytes.Equal(b, kept) {
				t.Errorf("Put(%v, %d) has changed its bytes: %v", kept, n, b)
			}
		}
	}
}

func TestSizeWhereItChanges(t *testing.T) { // P5.1
	for k := 1; k < 10; k++ {
		edge := int64(1) << (7*k - 1) // the first number from 0 on with k + 1 bytes
		for _, x := range []struct {
			n    int64
			want int
		}{{edge - 1, k}, {edge, k + 1}, {-edge, k}, {-edge - 1, k + 1}} {
			if got := Size(x.n); got != x.want {
				t.Errorf("Size(%d): %d, want %d", x.n, got, x.want)
			}
			if got := len(Put(nil, x.n)); got != x.want {
				t.Errorf("Put(nil, %d) has %d bytes, want %d", x.n, got, x.want)
			}
		}
	}
	if Size(0) != 1 || Size(math.MaxInt64) != 10 || Size(math.MinInt64) != 10 {
		t.Errorf("Size at 0 and at the ends: %d, %d, %d", Size(0), Size(math.MaxInt64), Size(math.MinInt64))
	}
}

// TestPutKeepsWhatItReturned puts twice behind the same bytes, which have room
// for more: neither answer may be written into that room.
func TestPutKeepsWhatItReturned(t *testing.T) { // P5.1
	room := long(9, 32)
	b := room[:3]
	one := Put(b, 64)
	two := Put(b, -1)
	three := Put(one, 1)
	if !bytes.Equal(one, []byte{9, 9, 9, 128, 1}) || !bytes.Equal(two, []byte{9, 9, 9, 1}) ||
		!bytes.Equal(three, []byte{9, 9, 9, 128, 1, 2}) || !bytes.Equal(room, long(9, 32)) {
		t.Errorf("%v, %v, %v, behind them %v", one, two, three, room)
	}
	two[0] = 77
	if b[0] != 9 || one[0] != 9 {
		t.Error("an answer shares memory with the argument")
	}
}

func TestGetOffsets(t *testing.T) { // P5.2
	b := []byte{128, 1, 2, 255, 127, 1} // 64, 1, -8192, -1
	checkGet(t, b, 0, 64, 2, api.OK)
	checkGet(t, b, 1, -1, 2, api.OK)
	checkGet(t, b, 2, 1, 3, api.OK)
	checkGet(t, b, 3, -8192, 5, api.OK)
	checkGet(t, b, 5, -1, 6, api.OK)
	checkGet(t, b, 6, 0, 0, api.ErrForm)
	for _, at := range []int{-1, -2, math.MinInt, 7, 8, 16, math.MaxInt} {
		checkGet(t, b, at, 0, 0, api.ErrArg)
	}
	for _, none := range [][]byte{nil, {}} {
		checkGet(t, none, 0, 0, 0, api.ErrForm)
		for _, at := range []int{-1, 1, math.MinInt, math.MaxInt} {
			checkGet(t, none, at, 0, 0, api.ErrArg)
		}
	}
	// Behind the end there is room, but no bytes.
	checkGet(t, b[:1], 0, 0, 0, api.ErrForm)
	checkGet(t, b[:1], 1, 0, 0, api.ErrForm)
	checkGet(t, b[:1], 2, 0, 0, api.ErrArg)
}

func TestGetTenBytes(t *testing.T) { // P5.2
	checkGet(t, long(255, 9, 1), 0, math.MinInt64, 10, api.OK)
	checkGet(t, long(128, 9, 1), 0, 1<<62, 10, api.OK)
	checkGet(t, long(255, 9, 1, 255), 0, math.MinInt64, 10, api.OK)
	checkGet(t, long(255, 8, 1), 0, -1<<56, 9, api.OK)
	checkGet(t, long(255, 8, 127), 0, -1<<62, 9, api.OK)
	for _, c := range []byte{128, 129, 255} {
		for tenth := 2; tenth < 256; tenth++ {
			checkGet(t, long(c, 9, byte(tenth)), 0, 0, 0, api.ErrForm)
			checkGet(t, long(c, 9, byte(tenth), 1), 0, 0, 0, api.ErrForm)
		}
		for times := 10; times < 80; times++ {
			checkGet(t, long(c, times), 0, 0, 0, api.ErrForm)
			checkGet(t, long(c, times, 0), 0, 0, 0, api.ErrForm)
			checkGet(t, long(c, times, 1), 0, 0, 0, api.ErrForm)
		}
		checkGet(t, long(c, 9, 0), 0, 0, 0, api.ErrForm)
		checkGet(t, long(c, 9, 0, 1), 0, 0, 0, api.ErrForm)
	}
}

func TestGetWithoutEnd(t *testing.T) { // P5.2
	for times := range 12 {
		checkGet(t, long(128, times), 0, 0, 0, api.ErrForm)
		checkGet(t, long(255, times), 0, 0, 0, api.ErrForm)
		checkGet(t, long(255, times), times, 0, 0, api.ErrForm)
		checkGet(t, append([]byte{3}, long(200, times)...), 1, 0, 0, api.ErrForm)
	}
}

func TestGetZeroAtTheEnd(t *testing.T) { // P5.2
	checkGet(t, []byte{0}, 0, 0, 1, api.OK)
	checkGet(t, []byte{0, 0}, 1, 0, 2, api.OK)
	checkGet(t, []byte{128, 0}, 1, 0, 2, api.OK)
	for times := 1; times < 12; times++ {
		checkGet(t, long(128, times, 0), 0, 0, 0, api.ErrForm)
		checkGet(t, long(255, times, 0), 0, 0, 0, api.ErrForm)
		checkGet(t, long(129, times, 0, 1), 0, 0, 0, api.ErrForm)
	}
}

// TestGetFirstError has an offset outside bytes that are not valid either.
func TestGetFirstError(t *testing.T) { // P5.2
	for _, b := range [][]byte{{128}, {128, 0}, long(255, 9, 2), long(255, 11)} {
		checkGet(t, b, 0, 0, 0, api.ErrForm)
		checkGet(t, b, len(b), 0, 0, api.ErrForm)
		checkGet(t, b, -1, 0, 0, api.ErrArg)
		checkGet(t, b, len(b)+1, 0, 0, api.ErrArg)
	}
}

// visitBytes calls visit with all lists of few bytes, which stand for the
// others: the ends of the groups, with and without more to follow.
func visitBytes(size int, visit func([]byte)) {
	few := []byte{0, 1, 2, 127, 128, 129, 255}
	b := make([]byte, size)
	var fill func(int)
	fill = func(i int) {
		if i == size {
			visit(b)
			return
		}
		for _, c := range few {
			b[i] = c
			fill(i + 1)
		}
	}
	fill(0)
}

func TestGetOfManyBytes(t *testing.T) { // P5.2
	check := func(b []byte) {
		for at := -1; at <= len(b)+1; at++ {
			n, next, e := exactGet(b, at)
			checkGet(t, b, at, n, next, e)
		}
	}
	for size := range 5 {
		visitBytes(size, check)
	}
	for before := 5; before < 10; before++ {
		visitBytes(3, func(b []byte) { check(slices.Concat(long(171, before), b)) })
	}
}

func TestGetReturnsWhatWasPut(t *testing.T) { // P5.3
	around := [][]byte{nil, {0}, {1}, {127}, {128}, {255}, {128, 0}, long(255, 10), long(128, 11, 1)}
	for _, n := range numbers() {
		for _, before := range around {
			put := Put(before, n)
			for _, after := range around {
				checkGet(t, slices.Concat(put, after), len(before), n, len(put), api.OK)
			}
		}
	}
}

func TestGetOfManyNumbers(t *testing.T) { // P5.3
	var b []byte
	l := numbers()
	for _, n := range l {
		b = Put(b, n)
	}
	at := 0
	for _, n := range l {
		checkGet(t, b, at, n, at+Size(n), api.OK)
		at += Size(n)
	}
	checkGet(t, b, at, 0, 0, api.ErrForm)
	if at != len(b) {
		t.Errorf("%d bytes of %d are read", at, len(b))
	}
}

// TestGetTakesOneEncoding holds all bytes that are read as a number against its
// chain.
func TestGetTakesOneEncoding(t *testing.T) { // P5.3
	check := func(b []byte) {
		n, next, e := Get(b, 0)
		if e == api.OK && !bytes.Equal(b[:next], Put(nil, n)) {
			t.Errorf("%v is read as %d, the chain of which is %v", b[:next], n, Put(nil, n))
		}
	}
	for first := range 256 {
		for second := range 256 {
			check([]byte{byte(first), byte(second)})
			check(long(200, 8, byte(first), byte(second)))
			check(long(255, 3, byte(first), byte(second)))
		}
	}
	for size := range 6 {
		visitBytes(size, check)
	}
}

// TestLongerEncodings writes numbers in more bytes than necessary.
func TestLongerEncodings(t *testing.T) { // P5.3
	for _, n := range numbers() {
		b := Put(nil, n)
		b[len(b)-1] += 128
		for range 11 {
			checkGet(t, append(slices.Clone(b), 0), 0, 0, 0, api.ErrForm)
			b = append(b, 128)
		}
	}
}
