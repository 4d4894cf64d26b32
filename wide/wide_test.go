package wide

import (
	"math"
	"math/big"
	"testing"

	"tympan/api"
)

const (
	top    = math.MaxUint64
	most   = api.Sp(math.MaxInt64)
	lowest = api.Sp(math.MinInt64)
)

// words are numbers of 64 bits where carries, halves and rounding change.
func words() []uint64 {
	return []uint64{
		0, 1, 2, 3, 7, 10, 1<<31 - 1, 1 << 31, 1<<32 - 1, 1 << 32, 1<<32 + 1,
		1<<50 - 27, 0x0123456789abcdef, 1<<62 - 1, 1 << 62, 1<<63 - 1, 1 << 63,
		1<<63 + 1, 0xfedcba9876543210, top - 2, top - 1, top,
	}
}

// lengths are the words as lengths, the upper half of them negative.
func lengths() []api.Sp {
	l := []api.Sp{-1, -2, -7, -1 << 32, lowest, lowest + 1}
	for _, w := range words() {
		l = append(l, api.Sp(w))
	}
	return l
}

func word(w uint64) *big.Int { return new(big.Int).SetUint64(w) }

func value(n Num) *big.Int {
	v := new(big.Int).Lsh(word(n.High), 64)
	return v.Add(v, word(n.Low))
}

func length(a api.Sp) *big.Int { return big.NewInt(int64(a)) }

func times(a, b *big.Int) *big.Int { return new(big.Int).Mul(a, b) }

// nums are the wide numbers with all pairs of words as their halves.
func nums() []Num {
	var l []Num
	for _, high := range words() {
		for _, low := range words() {
			l = append(l, Num{high, low})
		}
	}
	return l
}

func TestMulIsExact(t *testing.T) { // P2.1
	for _, a := range words() {
		for _, b := range words() {
			if got, want := value(Mul(a, b)), times(word(a), word(b)); got.Cmp(want) != 0 {
				t.Errorf("Mul(%d, %d): %v, want %v", a, b, got, want)
			}
		}
	}
	if got := Mul(top, top); got != (Num{top - 1, 1}) {
		t.Errorf("the greatest product: %v", got)
	}
	if got := Mul(top, 0); got != (Num{}) {
		t.Errorf("a product with 0: %v", got)
	}
}

func TestAddIsExactOrFails(t *testing.T) { // P2.1
	beyond := new(big.Int).Lsh(big.NewInt(1), 128)
	for _, n := range nums() {
		for _, m := range nums() {
			got, ok := n.Add(m)
			want := value(n)
			want.Add(want, value(m))
			if want.Cmp(beyond) >= 0 {
				if ok || got != (Num{}) {
					t.Fatalf("%v.Add(%v): %v %v, want zero and false", n, m, got, ok)
				}
				continue
			}
			if !ok || value(got).Cmp(want) != 0 {
				t.Fatalf("%v.Add(%v): %v %v, want %v", n, m, got, ok, want)
			}
		}
	}
}

func TestAddAtItsEnd(t *testing.T) { // P2.1
	for _, c := range []struct {
		n, m, want Num
		ok         bool
	}{
		{Num{top, top - 1}, Num{0, 1}, Num{top, top}, true},
		{Num{top, top}, Num{}, Num{top, top}, true},
		{Num{}, Num{top, top}, Num{top, top}, true},
		{Num{0, top}, Num{0, 1}, Num{1, 0}, true},
		{Num{top - 1, top}, Num{0, 1}, Num{top, 0}, true},
		{Num{top, top}, Num{0, 1}, Num{}, false},
		{Num{0, 1}, Num{top, top}, Num{}, false},
		{Num{1 << 63, 0}, Num{1 << 63, 0}, Num{}, false},
		{Num{1 << 63, 5}, Num{1<<63 - 1, top}, Num{}, false},
		{Num{1 << 63, 5}, Num{1 << 63, 9}, Num{}, false},
		{Num{top, top}, Num{top, top}, Num{}, false},
	} {
		if got, ok := c.n.Add(c.m); got != c.want || ok != c.ok {
			t.Errorf("%v.Add(%v): %v %v", c.n, c.m, got, ok)
		}
	}
}

func TestLessIsTheOrderOfValues(t *testing.T) { // P2.1
	for _, n := range nums() {
		for _, m := range nums() {
			if got, want := n.Less(m), value(n).Cmp(value(m)) < 0; got != want {
				t.Fatalf("%v.Less(%v): %v", n, m, got)
			}
		}
	}
	if (Num{1, 0}).Less(Num{0, top}) || !(Num{0, top}).Less(Num{1, 0}) {
		t.Error("the high half counts first")
	}
	if (Num{3, 4}).Less(Num{3, 4}) {
		t.Error("a number is not less than itself")
	}
}

func TestDivRoundsDown(t *testing.T) { // P2.1
	for _, n := range nums() {
		for _, d := range words() {
			quotient, rest, ok := n.Div(d)
			if d == 0 {
				if ok || rest != 0 || quotient != (Num{}) {
					t.Fatalf("%v.Div(0): %v %d %v", n, quotient, rest, ok)
				}
				continue
			}
			want, left := new(big.Int).QuoRem(value(n), word(d), new(big.Int))
			if !ok || value(quotient).Cmp(want) != 0 || word(rest).Cmp(left) != 0 {
				t.Fatalf("%v.Div(%d): %v %d %v, want %v %v", n, d, quotient, rest, ok, want, left)
			}
		}
	}
}

func TestDivAtItsEnds(t *testing.T) { // P2.1
	for _, c := range []struct {
		n        Num
		d        uint64
		quotient Num
		rest     uint64
		ok       bool
	}{
		{Num{top, top}, 1, Num{top, top}, 0, true},
		{Num{top, top}, top, Num{1, 1}, 0, true},
		{Num{top - 1, top}, top, Num{0, top}, top - 1, true},
		{Num{7, 5}, 3, Num{2, top/3 + 2}, 0, true},
		{Num{7, 6}, 3, Num{2, top/3 + 2}, 1, true},
		{Num{0, 9}, 10, Num{}, 9, true},
		{Num{}, 5, Num{}, 0, true},
		{Num{}, 0, Num{}, 0, false},
		{Num{top, top}, 0, Num{}, 0, false},
	} {
		quotient, rest, ok := c.n.Div(c.d)
		if quotient != c.quotient || rest != c.rest || ok != c.ok {
			t.Errorf("%v.Div(%d): %v %d %v", c.n, c.d, quotient, rest, ok)
		}
	}
}

func TestRatioIsExactOrFails(t *testing.T) { // P2.2
	for _, a := range lengths() {
		for _, b := range lengths() {
			for _, c := range lengths() {
				want, ok := api.Sp(0), false
				if a >= 0 && b >= 0 && c >= 1 {
					exact := times(length(a), length(b))
					if exact.Quo(exact, length(c)); exact.IsInt64() {
						want, ok = api.Sp(exact.Int64()), true
					}
				}
				if got, is := Ratio(a, b, c); got != want || is != ok {
					t.Fatalf("Ratio(%d, %d, %d): %d %v, want %d %v", a, b, c, got, is, want, ok)
				}
			}
		}
	}
}

func TestRatioAtItsEnds(t *testing.T) { // P2.2
	for _, c := range []struct {
		a, b, c, want api.Sp
		ok            bool
	}{
		{10, 10, 3, 33, true},
		{2, 1, 3, 0, true},
		{0, most, 1, 0, true},
		{most, 0, most, 0, true},
		{most, 1, 1, most, true},
		{most, most, most, most, true},
		{most, 7, 7, most, true},
		// 2^64 - 1 is a product; half of it is rounded down to the greatest
		// result, and half of the next product is just above that.
		{1<<32 + 1, 1<<32 - 1, 2, most, true},
		{1 << 32, 1 << 32, 2, 0, false},
		{1 << 62, 2, 1, 0, false},
		{most, 3, 2, 0, false},
		{1 << 62, 1 << 62, 1 << 61, 0, false},
		{1 << 62, 4, 1, 0, false},
		{most, most, most - 1, 0, false},
		{most, most, 1, 0, false},
		{-1, 4, 1, 0, false},
		{4, -1, 1, 0, false},
		{-4, -4, 1, 0, false},
		{-1, 0, 1, 0, false},
		{0, -1, 1, 0, false},
		{lowest, lowest, 1, 0, false},
		{4, 4, 0, 0, false},
		{0, 0, 0, 0, false},
		{4, 4, -1, 0, false},
		{4, 4, lowest, 0, false},
	} {
		if got, ok := Ratio(c.a, c.b, c.c); got != c.want || ok != c.ok {
			t.Errorf("Ratio(%d, %d, %d): %d %v, want %d %v", c.a, c.b, c.c, got, ok, c.want, c.ok)
		}
	}
}

// counted is the length as it counts in a comparison.
func counted(a api.Sp) *big.Int { return length(max(a, 0)) }

func TestCmpComparesProducts(t *testing.T) { // P2.2
	for _, a := range lengths() {
		for _, b := range lengths() {
			left := times(counted(a), counted(b))
			for _, c := range lengths() {
				for _, d := range lengths() {
					want := left.Cmp(times(counted(c), counted(d)))
					if got := Cmp(a, b, c, d); got != want {
						t.Fatalf("Cmp(%d, %d, %d, %d): %d, want %d", a, b, c, d, got, want)
					}
				}
			}
		}
	}
}

func TestCmpNearby(t *testing.T) { // P2.2
	for _, c := range []struct {
		a, b, c, d api.Sp
		want       int
	}{
		{2, 3, 6, 1, 0},
		{1 << 62, 4, 1 << 61, 8, 0},
		{most, most, most, most, 0},
		// (2^32 + 1) * (2^32 - 1) is 2^64 - 1.
		{1<<32 + 1, 1<<32 - 1, 1 << 32, 1 << 32, -1},
		{1 << 32, 1 << 32, 1<<32 + 1, 1<<32 - 1, 1},
		{1<<62 - 1, 1<<62 + 1, 1 << 62, 1 << 62, -1},
		{most, most - 2, most - 1, most - 1, -1},
		{most - 1, most - 1, most, most - 2, 1},
		{-2, 3, 1, 1, -1},
		{-2, -3, 1, 1, -1},
		{1, 1, -2, -3, 1},
		{-2, -3, -4, 5, 0},
		{-5, 7, 0, 0, 0},
		{lowest, lowest, 0, most, 0},
		{lowest, lowest, 1, 1, -1},
	} {
		if got := Cmp(c.a, c.b, c.c, c.d); got != c.want {
			t.Errorf("Cmp(%d, %d, %d, %d): %d, want %d", c.a, c.b, c.c, c.d, got, c.want)
		}
	}
}

func TestAProductDividesByItsFactors(t *testing.T) { // P2.3
	for _, a := range words() {
		for _, b := range words() {
			quotient, rest, ok := Mul(a, b).Div(b)
			if b == 0 {
				if ok {
					t.Errorf("Mul(%d, 0).Div(0) is true", a)
				}
				continue
			}
			if quotient != (Num{Low: a}) || rest != 0 || !ok {
				t.Errorf("Mul(%d, %d).Div(%d): %v %d %v", a, b, b, quotient, rest, ok)
			}
		}
	}
	for _, a := range lengths() {
		for _, b := range lengths() {
			if a < 0 || b < 1 {
				continue
			}
			if got, ok := Ratio(a, b, b); got != a || !ok {
				t.Errorf("Ratio(%d, %d, %d): %d %v", a, b, b, got, ok)
			}
		}
	}
}
