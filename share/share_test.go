package share

import (
	"math"
	"math/big"
	"slices"
	"testing"

	"tympan/api"
)

const (
	least = api.Sp(math.MinInt64)
	most  = api.Sp(math.MaxInt64)
)

// wholes are those that can be shared: 0, 1, small ones, and those about the
// powers of 2 up to the greatest length.
func wholes() []api.Sp {
	return []api.Sp{
		0, 1, 2, 3, 7, 10, 999, 1<<31 - 1, 1 << 31, 1<<32 + 1, 1<<42 - 3,
		1<<62 - 1, 1 << 62, 1<<62 + 1, most - 1, most,
	}
}

// divisors are lists of parts by which a whole can be shared.
func divisors() [][]api.Sp {
	return [][]api.Sp{
		{1}, {2}, {7}, {most},
		{1, 1}, {2, 1}, {1, 2}, {1, most - 1}, {most - 1, 1}, {1 << 62, 1<<62 - 1},
		{0, 2}, {2, 0}, {0, most}, {most, 0}, {0, 1}, {1, 0},
		{1, 1, 1}, {0, 3, 4}, {3, 0, 4}, {3, 4, 0}, {0, 0, 5}, {0, 5, 0}, {5, 0, 0},
		{0, 3, 0, 0, 4, 0}, {1 << 40, 0, 1<<41 + 1, 3},
		{1, 1, 1, 1}, {5, 3, 2, 7, 1, 1, 9}, {most - 6, 1, 2, 3}, {1, 2, 3, most - 6},
		{most / 3, most / 3, most / 3}, {1 << 61, 1 << 61, 1 << 61, 1<<61 - 1},
		slices.Repeat([]api.Sp{1}, 100), slices.Repeat([]api.Sp{0, 3, 1}, 50),
		slices.Repeat([]api.Sp{most / 64}, 64),
	}
}

// refused are wholes with parts by which they cannot be shared.
func refused() []struct {
	whole api.Sp
	parts []api.Sp
} {
	return []struct {
		whole api.Sp
		parts []api.Sp
	}{
		{5, nil}, {0, nil}, {5, []api.Sp{}}, {-1, nil}, {most, nil},
		{5, []api.Sp{0}}, {0, []api.Sp{0}}, {5, []api.Sp{0, 0, 0}}, {most, []api.Sp{0, 0}},
		{-1, []api.Sp{1}}, {-1, []api.Sp{1, 1, 1}}, {-7, []api.Sp{0, 3}},
		{least, []api.Sp{1}}, {least, []api.Sp{most}}, {-1, []api.Sp{0}},
		{5, []api.Sp{-1}}, {5, []api.Sp{-1, 3}}, {5, []api.Sp{3, -1}}, {5, []api.Sp{3, -1, 4}},
		{0, []api.Sp{3, -1}}, {5, []api.Sp{3, -3}}, {5, []api.Sp{least}}, {5, []api.Sp{most, least}},
		{5, []api.Sp{least, most, 3}}, {5, []api.Sp{most, -1, 1}}, {5, []api.Sp{-1, -1}},
		{-5, []api.Sp{-1, -2}}, {-5, []api.Sp{-5}},
		{5, []api.Sp{most, 1}}, {5, []api.Sp{1, most}}, {0, []api.Sp{most, 1}}, {5, []api.Sp{1, 0, most}},
		{5, []api.Sp{1 << 62, 1 << 62}}, {most, []api.Sp{most, most}},
		// These sums come back to 0, and to 1, after a wrap round.
		{5, []api.Sp{1 << 62, 1 << 62, 1 << 62, 1 << 62}},
		{5, []api.Sp{most, most, 3}}, {5, []api.Sp{most, most, 2}},
		// A negative part makes up for what would be too much.
		{5, []api.Sp{most, 1, -1}}, {5, []api.Sp{-1, most, 1}},
	}
}

// shareable and upTo are the chapter's definitions, in exact numbers.
func shareable(whole api.Sp, parts []api.Sp) bool {
	for _, p := range parts {
		if p < 0 {
			return false
		}
	}
	sum := exactSum(parts)
	return whole >= 0 && sum.Sign() > 0 && sum.IsInt64()
}

func exactSum(parts []api.Sp) *big.Int {
	sum := new(big.Int)
	for _, p := range parts {
		sum.Add(sum, big.NewInt(int64(p)))
	}
	return sum
}

func upTo(whole api.Sp, parts []api.Sp, n int) api.Sp {
	a := new(big.Int).Mul(big.NewInt(int64(whole)), exactSum(parts[:n]))
	return api.Sp(a.Div(a, exactSum(parts)).Int64())
}

func sharesOf(whole api.Sp, parts []api.Sp) []api.Sp {
	var l []api.Sp
	for i := range parts {
		l = append(l, upTo(whole, parts, i+1)-upTo(whole, parts, i))
	}
	return l
}

// lists calls visit with every list of up to four of the numbers.
func lists(numbers []api.Sp, visit func(l []api.Sp)) {
	var grow func(l []api.Sp)
	grow = func(l []api.Sp) {
		visit(l)
		if len(l) == 4 {
			return
		}
		for _, a := range numbers {
			grow(append(slices.Clone(l), a))
		}
	}
	grow(nil)
}

// checkShares holds all three functions against the definitions.
func checkShares(t *testing.T, whole api.Sp, parts []api.Sp) {
	t.Helper()
	kept := slices.Clone(parts)
	ok := shareable(whole, parts)
	var want []api.Sp
	if ok {
		want = sharesOf(whole, parts)
	}
	if got, gotOK := All(whole, parts); gotOK != ok || !slices.Equal(got, want) {
		t.Errorf("All(%d, %v): %v %v, not %v %v", whole, parts, got, gotOK, want, ok)
	}
	next := 0
	for i, s := range Each(whole, parts) {
		if i != next || i >= len(want) || s != want[i] {
			t.Fatalf("Each(%d, %v): %d at %d after %d of %v", whole, parts, s, i, next, want)
		}
		next++
	}
	if next != len(want) {
		t.Errorf("Each(%d, %v): %d shares, not %d", whole, parts, next, len(want))
	}
	for n := -2; n <= len(parts)+2; n++ {
		checkUp(t, whole, parts, n)
	}
	checkUp(t, whole, parts, math.MinInt)
	checkUp(t, whole, parts, math.MaxInt)
	if !slices.Equal(parts, kept) {
		t.Errorf("sharing %d by %v changed the parts: %v", whole, kept, parts)
	}
}

func checkUp(t *testing.T, whole api.Sp, parts []api.Sp, n int) {
	t.Helper()
	var want api.Sp
	ok := shareable(whole, parts)
	if ok {
		want = upTo(whole, parts, min(max(n, 0), len(parts)))
	}
	if got, gotOK := Up(whole, parts, n); got != want || gotOK != ok {
		t.Errorf("Up(%d, %v, %d): %d %v, not %d %v", whole, parts, n, got, gotOK, want, ok)
	}
}

// P8.1: the chapter's examples, and others that are written out.
func TestExamples(t *testing.T) {
	for _, x := range []struct {
		whole api.Sp
		parts []api.Sp
		want  []api.Sp
	}{
		{10, []api.Sp{1, 1, 1}, []api.Sp{3, 3, 4}},
		{5, []api.Sp{0, 2}, []api.Sp{0, 5}},
		{5, []api.Sp{2, 0}, []api.Sp{5, 0}},
		{5, []api.Sp{1, 0, 1}, []api.Sp{2, 0, 3}},
		{0, []api.Sp{3, 4}, []api.Sp{0, 0}},
		{0, []api.Sp{most}, []api.Sp{0}},
		{1, []api.Sp{3}, []api.Sp{1}},
		{1, []api.Sp{1, 1}, []api.Sp{0, 1}},
		{1, []api.Sp{9, 1}, []api.Sp{0, 1}},
		{2, []api.Sp{1, 1, 1, 1}, []api.Sp{0, 1, 0, 1}},
		{100, []api.Sp{1, 2, 3}, []api.Sp{16, 34, 50}},
		{most, []api.Sp{1}, []api.Sp{most}},
		{most, []api.Sp{most}, []api.Sp{most}},
		{most, []api.Sp{most - 1, 1}, []api.Sp{most - 1, 1}},
		{most, []api.Sp{1, 1}, []api.Sp{1<<62 - 1, 1 << 62}},
		{most, []api.Sp{1, 0, most - 1}, []api.Sp{1, 0, most - 1}},
		{1, []api.Sp{1 << 62, 1<<62 - 1}, []api.Sp{0, 1}},
		{1 << 62, []api.Sp{1 << 61, 1 << 60, 1 << 60}, []api.Sp{1 << 61, 1 << 60, 1 << 60}},
	} {
		if got, ok := All(x.whole, x.parts); !ok || !slices.Equal(got, x.want) {
			t.Errorf("All(%d, %v): %v %v, not %v", x.whole, x.parts, got, ok, x.want)
		}
	}
}

// P8.1: Up at every number of parts, and beyond both ends.
func TestUp(t *testing.T) {
	parts := []api.Sp{1, 0, 1, 1}
	for _, x := range []struct {
		n    int
		want api.Sp
	}{
		{0, 0}, {1, 3}, {2, 3}, {3, 6}, {4, 10},
		{-1, 0}, {-4, 0}, {math.MinInt, 0}, {5, 10}, {99, 10}, {math.MaxInt, 10},
	} {
		if got, ok := Up(10, parts, x.n); got != x.want || !ok {
			t.Errorf("Up(10, %v, %d): %d %v, not %d", parts, x.n, got, ok, x.want)
		}
	}
}

// P8.1: all three functions for wholes that can be shared.
func TestShared(t *testing.T) {
	for _, parts := range divisors() {
		if !shareable(1, parts) {
			t.Fatalf("%v divides nothing", parts)
		}
		for _, whole := range wholes() {
			checkShares(t, whole, parts)
		}
	}
}

// P8.1: what cannot be shared gives 0, an empty list, no shares, and false.
func TestRefused(t *testing.T) {
	for _, x := range refused() {
		if shareable(x.whole, x.parts) {
			t.Fatalf("%v divides %d", x.parts, x.whole)
		}
		if l, ok := All(x.whole, x.parts); len(l) != 0 || ok {
			t.Errorf("All(%d, %v): %v %v", x.whole, x.parts, l, ok)
		}
		for i, s := range Each(x.whole, x.parts) {
			t.Errorf("Each(%d, %v): %d at %d", x.whole, x.parts, s, i)
		}
		for _, n := range []int{math.MinInt, -1, 0, 1, 2, 3, len(x.parts), math.MaxInt} {
			if a, ok := Up(x.whole, x.parts, n); a != 0 || ok {
				t.Errorf("Up(%d, %v, %d): %d %v", x.whole, x.parts, n, a, ok)
			}
		}
		checkShares(t, x.whole, x.parts)
	}
}

// P8.1: every short list of numbers about 0 and about the ends of the range.
func TestShortLists(t *testing.T) {
	small := []api.Sp{-1, 0, 1, 2, 5}
	great := []api.Sp{least, 0, 1, 1<<62 - 1, 1 << 62, most - 1, most}
	for _, whole := range []api.Sp{-1, 0, 1, 4, 11} {
		lists(small, func(l []api.Sp) { checkShares(t, whole, l) })
	}
	for _, whole := range []api.Sp{least, 0, 1, most} {
		lists(great, func(l []api.Sp) { checkShares(t, whole, l) })
	}
}

// P8.1: a loop over Each may be left after any share, and the sequence may be
// gone through again.
func TestEachLeft(t *testing.T) {
	parts := []api.Sp{1, 0, 1, 1, 0}
	want := []api.Sp{3, 0, 3, 4, 0}
	each := Each(10, parts)
	for stop := 1; stop <= len(parts); stop++ {
		var got []api.Sp
		// The sequence is called by itself, since a range loop would hide a
		// call after the loop was left behind a panic.
		each(func(i int, s api.Sp) bool {
			if i != len(got) {
				t.Errorf("index %d after %d shares", i, len(got))
			}
			got = append(got, s)
			return len(got) < stop
		})
		if !slices.Equal(got, want[:stop]) {
			t.Errorf("Each, left after %d: %v, not %v", stop, got, want[:stop])
		}
	}
	for i, s := range each {
		if i != 0 || s != 3 {
			t.Errorf("the first share: %d at %d", s, i)
		}
		break
	}
	var all []api.Sp
	for _, s := range each {
		all = append(all, s)
	}
	if !slices.Equal(all, want) {
		t.Errorf("Each, once more: %v, not %v", all, want)
	}
}

// P8.1: each call is on its own, also while another one is under way.
func TestEachWithin(t *testing.T) {
	parts := []api.Sp{2, 1, 4}
	want := sharesOf(99, parts)
	each := Each(99, parts)
	for i, s := range each {
		if s != want[i] {
			t.Errorf("outside, at %d: %d, not %d", i, s, want[i])
		}
		for j, u := range each {
			if u != want[j] {
				t.Errorf("within, at %d: %d, not %d", j, u, want[j])
			}
		}
	}
}

// P8.1: a list that All returned is no part of the arguments, and not that of
// another call.
func TestAllNew(t *testing.T) {
	parts := []api.Sp{1, 2, 3}
	one, _ := All(6, parts)
	two, _ := All(6, parts)
	for i := range one {
		one[i] = -1
	}
	if !slices.Equal(parts, []api.Sp{1, 2, 3}) || !slices.Equal(two, []api.Sp{1, 2, 3}) {
		t.Errorf("shared memory: %v %v", parts, two)
	}
}

// P8.2: all shares add up to the whole, that of a part 0 is 0, and each is its
// exact value rounded down or up.
func TestFollows(t *testing.T) {
	for _, parts := range divisors() {
		for _, whole := range wholes() {
			shares, ok := All(whole, parts)
			if !ok || len(shares) != len(parts) {
				t.Errorf("All(%d, %v): %v %v", whole, parts, shares, ok)
				continue
			}
			if sum := exactSum(shares); !sum.IsInt64() || sum.Int64() != int64(whole) {
				t.Errorf("All(%d, %v) adds up to %v", whole, parts, sum)
			}
			for i, s := range shares {
				checkRounded(t, whole, parts, i, s)
			}
		}
	}
}

func checkRounded(t *testing.T, whole api.Sp, parts []api.Sp, i int, s api.Sp) {
	t.Helper()
	if parts[i] == 0 && s != 0 {
		t.Errorf("All(%d, %v): %d for the part 0 at %d", whole, parts, s, i)
	}
	exact := new(big.Int).Mul(big.NewInt(int64(whole)), big.NewInt(int64(parts[i])))
	down, rest := exact.DivMod(exact, exactSum(parts), new(big.Int))
	up := down.Int64()
	if rest.Sign() > 0 {
		up++
	}
	if int64(s) != down.Int64() && int64(s) != up {
		t.Errorf("All(%d, %v): %d at %d, not %v or %d", whole, parts, s, i, down, up)
	}
}
