package queue

import (
	"math"
	"math/big"
	"math/rand"
	"reflect"
	"slices"
	"sync"
	"testing"

	"tympan/api"
)

const (
	least = math.MinInt
	most  = math.MaxInt
	// far is 2^30, beyond which no number is added.
	far = 1073741824
)

// of returns floats of these classes, each of its own height.
func of(classes ...int) []api.Float {
	l := make([]api.Float, len(classes))
	for i, c := range classes {
		l[i] = api.Float{C: c, H: api.Sp(i + 1), Where: i % 4}
	}
	return l
}

// lists are all lists of up to three floats of every class, and of no valid class,
// and some of four to six.
func lists() [][]api.Float {
	all := [][]api.Float{nil, {}}
	classes := []int{-1, 0, 1, 2, 3}
	for _, a := range classes {
		all = append(all, of(a))
		for _, b := range classes {
			all = append(all, of(a, b))
			for _, c := range classes {
				all = append(all, of(a, b, c))
			}
		}
	}
	random := rand.New(rand.NewSource(23))
	for range 120 {
		some := make([]int, 4+random.Intn(3))
		for i := range some {
			some[i] = random.Intn(3)
			if random.Intn(8) == 0 {
				some[i] = []int{-1, 3, least, most, far}[random.Intn(5)]
			}
		}
		all = append(all, of(some...))
	}
	return append(all, of(0, 0, 0, 0, 0, 0), of(2, 1, 0, 2, 1, 0), of(1, 1, 2, 0, -1, 1))
}

// numbers are those around 0 and around the bounds, and the extreme ones.
func numbers() []int {
	l := []int{least, least + 1, most - 1, most, -9, -3, 5, 7, far/2 - 1, far / 2, far/2 + 1, -far / 2, 1 << 31, 1 << 32, 1<<32 + 3, -1 << 32}
	for i := -2; i <= 2; i++ {
		l = append(l, i, far+i, -far+i)
	}
	return l
}

// within is n, or the end of the range from low to high that it is beyond.
func within(n, low, high int) int {
	switch {
	case n < low:
		return low
	case n > high:
		return high
	}
	return n
}

// places are the indices of the floats of class c, as chapter 12 has them.
func places(l []api.Float, c int) []int {
	var ids []int
	for i := range l {
		if l[i].C == c {
			ids = append(ids, i)
		}
	}
	return ids
}

// take is the text of Take: which indices there are, and whether there are enough.
func take(l []api.Float, heads, n Counts) ([]int, bool) {
	taken := map[int]bool{}
	for c := range 3 {
		if heads[c] < 0 || n[c] < 0 {
			return nil, false
		}
		ids := places(l, c)
		end := new(big.Int).Add(big.NewInt(int64(heads[c])), big.NewInt(int64(n[c])))
		if end.Cmp(big.NewInt(int64(len(ids)))) > 0 {
			return nil, false
		}
		for i, id := range ids {
			if i >= heads[c] && int64(i) < end.Int64() {
				taken[id] = true
			}
		}
	}
	var ids []int
	for i := range l {
		if taken[i] {
			ids = append(ids, i)
		}
	}
	return ids, true
}

func expectTake(t *testing.T, l []api.Float, heads, n Counts, want []int, ok bool) {
	t.Helper()
	got, is := Take(l, heads, n)
	if is != ok || !slices.Equal(got, want) {
		t.Errorf("%v: Take(%v, %v) = %v, %v, want %v, %v", l, heads, n, got, is, want, ok)
	}
}

func expectNext(t *testing.T, l []api.Float, heads Counts, ids []int, want bool) {
	t.Helper()
	if got := Next(l, heads, ids); got != want {
		t.Errorf("%v: Next(%v, %v) = %v", l, heads, ids, got)
	}
}

// P23.2: the chapter's example.
func TestExample(t *testing.T) {
	expectTake(t, of(0, 1, 0), Counts{0, 0, 0}, Counts{2, 1, 0}, []int{0, 1, 2}, true)
}

// P23.1: counts are the numbers for three classes, and can be compared.
func TestCountsAreAnArray(t *testing.T) {
	if got := [3]int(Counts{7, 8, 9}); got != [3]int{7, 8, 9} {
		t.Errorf("counts: %v", got)
	}
	if k := reflect.TypeFor[Counts]().Kind(); k != reflect.Array {
		t.Errorf("counts are a %v", k)
	}
}

// P23.1: the sums of all pairs of numbers, in each class.
func TestAddOfEveryPair(t *testing.T) {
	for _, a := range numbers() {
		for _, b := range numbers() {
			want := within(within(a, -far, far)+within(b, -far, far), -far, far)
			for c := range 3 {
				x, y, sum := Counts{1, 2, 3}, Counts{10, 20, 30}, Counts{11, 22, 33}
				x[c], y[c], sum[c] = a, b, want
				if got := x.Add(y); got != sum {
					t.Errorf("%v.Add(%v) = %v, want %v", x, y, got, sum)
				}
			}
		}
	}
}

// P23.1: written out, with sums at both bounds and beyond them.
func TestAddByHand(t *testing.T) {
	rows := []struct{ a, b, want Counts }{
		{Counts{}, Counts{}, Counts{}},
		{Counts{1, 2, 3}, Counts{4, -5, 6}, Counts{5, -3, 9}},
		{Counts{-1, 0, 1}, Counts{-1, 0, -1}, Counts{-2, 0, 0}},
		{Counts{1073741823, 1073741824, 1073741825}, Counts{}, Counts{1073741823, 1073741824, 1073741824}},
		{Counts{1073741823, 1073741824, 1073741825}, Counts{-1, -1, -1}, Counts{1073741822, 1073741823, 1073741823}},
		{Counts{1073741823, 1073741823, 1073741822}, Counts{1, 2, 1}, Counts{1073741824, 1073741824, 1073741823}},
		{Counts{-1073741823, -1073741824, -1073741825}, Counts{}, Counts{-1073741823, -1073741824, -1073741824}},
		{Counts{-1073741823, -1073741824, -1073741825}, Counts{1, 1, 1}, Counts{-1073741822, -1073741823, -1073741823}},
		{Counts{-1073741823, -1073741823, -1073741822}, Counts{-1, -2, -1}, Counts{-1073741824, -1073741824, -1073741823}},
		{Counts{536870912, 536870912, -536870912}, Counts{536870912, 536870913, -536870912}, Counts{1073741824, 1073741824, -1073741824}},
		{Counts{most, least, most}, Counts{most, least, least}, Counts{1073741824, -1073741824, 0}},
		{Counts{most, least, most}, Counts{-1, 1, 1}, Counts{1073741823, -1073741823, 1073741824}},
		{Counts{1 << 32, -1 << 32, 1<<32 + 1}, Counts{-3, 3, 0}, Counts{1073741821, -1073741821, 1073741824}},
	}
	for _, r := range rows {
		if got := r.a.Add(r.b); got != r.want {
			t.Errorf("%v.Add(%v) = %v, want %v", r.a, r.b, got, r.want)
		}
		if got := r.b.Add(r.a); got != r.want {
			t.Errorf("%v.Add(%v) = %v, want %v", r.b, r.a, got, r.want)
		}
	}
}

// P23.1: the sum of all triples of numbers, which itself is not clamped.
func TestSum(t *testing.T) {
	for _, a := range numbers() {
		for _, b := range numbers() {
			for _, c := range numbers() {
				want := within(a, -far, far) + within(b, -far, far) + within(c, -far, far)
				if got := (Counts{a, b, c}).Sum(); got != want {
					t.Errorf("sum of %d, %d, %d = %d, want %d", a, b, c, got, want)
				}
			}
		}
	}
}

// P23.1: sums written out.
func TestSumByHand(t *testing.T) {
	rows := []struct {
		c    Counts
		want int
	}{
		{Counts{}, 0},
		{Counts{1, 2, 3}, 6},
		{Counts{-1, 2, -3}, -2},
		{Counts{1073741824, 0, 0}, 1073741824},
		{Counts{0, 1073741825, 0}, 1073741824},
		{Counts{0, 1, 1073741823}, 1073741824},
		{Counts{1, 1, 1073741823}, 1073741825},
		{Counts{1073741824, 1073741824, 1073741824}, 3221225472},
		{Counts{most, most, most}, 3221225472},
		{Counts{-1073741824, -1073741824, -1073741825}, -3221225472},
		{Counts{least, least, least}, -3221225472},
		{Counts{most, least, 5}, 5},
		{Counts{-1073741825, 1, 0}, -1073741823},
	}
	for _, r := range rows {
		if got := r.c.Sum(); got != r.want {
			t.Errorf("sum of %v = %d, want %d", r.c, got, r.want)
		}
	}
}

// P23.1: every pair of numbers in each class; here nothing is clamped.
func TestWithinOfEveryPair(t *testing.T) {
	for _, a := range numbers() {
		for _, b := range numbers() {
			for c := range 3 {
				x, y := Counts{1, 2, 3}, Counts{1, 3, 3}
				x[c], y[c] = a, b
				if got := x.Within(y); got != (a <= b) {
					t.Errorf("%v within %v: %v", x, y, got)
				}
				y[(c+1)%3] = 0
				if x.Within(y) {
					t.Errorf("%v within %v", x, y)
				}
			}
		}
	}
}

// P23.1: equal counts, and counts that are less in one class and greater in another.
func TestWithinByHand(t *testing.T) {
	rows := []struct {
		a, b Counts
		want bool
	}{
		{Counts{}, Counts{}, true},
		{Counts{1, 2, 3}, Counts{1, 2, 3}, true},
		{Counts{1, 2, 3}, Counts{1, 2, 4}, true},
		{Counts{1, 2, 3}, Counts{2, 3, 4}, true},
		{Counts{1, 2, 3}, Counts{1, 2, 2}, false},
		{Counts{1, 2, 3}, Counts{9, 1, 9}, false},
		{Counts{1, 2, 3}, Counts{0, 9, 9}, false},
		{Counts{1, 0, 0}, Counts{0, 1, 0}, false},
		{Counts{0, 1, 0}, Counts{1, 0, 0}, false},
		{Counts{-1, -1, -1}, Counts{}, true},
		{Counts{}, Counts{0, 0, -1}, false},
		{Counts{1073741825, 0, 0}, Counts{1073741824, 0, 0}, false},
		{Counts{1073741825, 0, 0}, Counts{1073741826, 0, 0}, true},
		{Counts{0, 0, -1073741825}, Counts{0, 0, -1073741826}, false},
		{Counts{0, 0, -1073741826}, Counts{0, 0, -1073741825}, true},
		{Counts{least, least, least}, Counts{most, most, most}, true},
		{Counts{least, most, least}, Counts{least, most, least}, true},
		{Counts{most, 0, 0}, Counts{most - 1, 0, 0}, false},
		{Counts{0, least + 1, 0}, Counts{0, least, 0}, false},
	}
	for _, r := range rows {
		if got := r.a.Within(r.b); got != r.want {
			t.Errorf("%v within %v: %v", r.a, r.b, got)
		}
	}
}

// P23.1: every pair of heads and ahead, in each class.
func TestReadyOfEveryPair(t *testing.T) {
	for _, head := range numbers() {
		for _, ahead := range numbers() {
			want := within(within(ahead, 0, far)-within(head, 0, far), 0, far)
			for c := range 3 {
				h, a, ready := Counts{1, 5, 3}, Counts{3, 4, 3}, Counts{2, 0, 0}
				h[c], a[c], ready[c] = head, ahead, want
				if got := Ready(h, a); got != ready {
					t.Errorf("Ready(%v, %v) = %v, want %v", h, a, got, ready)
				}
			}
		}
	}
}

// P23.1: written out, with heads below ahead, at it and above it.
func TestReadyByHand(t *testing.T) {
	rows := []struct{ heads, ahead, want Counts }{
		{Counts{}, Counts{}, Counts{}},
		{Counts{1, 2, 3}, Counts{3, 1, 3}, Counts{2, 0, 0}},
		{Counts{0, 0, 0}, Counts{4, 5, 6}, Counts{4, 5, 6}},
		{Counts{4, 5, 6}, Counts{0, 0, 0}, Counts{}},
		{Counts{-1, -2, least}, Counts{3, 1, 2}, Counts{3, 1, 2}},
		{Counts{1, 0, -4}, Counts{-3, -1, -2}, Counts{}},
		{Counts{-5, -9, least}, Counts{-3, least, -1}, Counts{}},
		{Counts{1, 0, 2}, Counts{1073741824, 1073741825, most}, Counts{1073741823, 1073741824, 1073741822}},
		{Counts{1073741824, 1073741825, most}, Counts{most, 1073741825, 1073741824}, Counts{}},
		{Counts{1073741823, 1073741823, 1073741822}, Counts{1073741824, most, 1073741825}, Counts{1, 1, 2}},
		{Counts{most, least, 0}, Counts{least, most, least}, Counts{0, 1073741824, 0}},
	}
	for _, r := range rows {
		if got := Ready(r.heads, r.ahead); got != r.want {
			t.Errorf("Ready(%v, %v) = %v, want %v", r.heads, r.ahead, got, r.want)
		}
	}
}

// counts returns all counts whose numbers are from low to those of high.
func counts(low int, high Counts) []Counts {
	var all []Counts
	for a := low; a <= high[0]; a++ {
		for b := low; b <= high[1]; b++ {
			for c := low; c <= high[2]; c++ {
				all = append(all, Counts{a, b, c})
			}
		}
	}
	return all
}

// size returns how many floats of each class there are, and more of each.
func size(l []api.Float, more int) Counts {
	return Counts{len(places(l, 0)) + more, len(places(l, 1)) + more, len(places(l, 2)) + more}
}

// P23.2: all heads and n from below 0 to one beyond what is there.
func TestTakeOfEveryCounts(t *testing.T) {
	for _, l := range lists() {
		if len(l) > 3 {
			continue
		}
		all := counts(-1, size(l, 1))
		for _, heads := range all {
			for _, n := range all {
				want, ok := take(l, heads, n)
				expectTake(t, l, heads, n, want, ok)
			}
		}
	}
}

// P23.2: lists of up to six floats.
func TestTakeOfMoreFloats(t *testing.T) {
	random := rand.New(rand.NewSource(1))
	for _, l := range lists() {
		all := counts(0, size(l, 1))
		for range 400 {
			heads, n := all[random.Intn(len(all))], all[random.Intn(len(all))]
			want, ok := take(l, heads, n)
			expectTake(t, l, heads, n, want, ok)
		}
		for _, heads := range counts(0, size(l, 0)) {
			var n Counts
			for c := range n {
				n[c] = len(places(l, c)) - heads[c]
			}
			want, ok := take(l, heads, n)
			expectTake(t, l, heads, n, want, ok)
		}
	}
}

// P23.2: numbers far from all floats, in each class, as a head and as an n.
func TestTakeOfExtremeNumbers(t *testing.T) {
	for _, l := range lists() {
		for _, x := range []int{least, least + 1, -far, -2, -1, 7, far, 1 << 32, most - 1, most} {
			for _, y := range []int{least, -1, 0, 1, 2, most} {
				for c := range 3 {
					var a, b Counts
					a[c], b[c] = x, y
					expectTake(t, l, a, b, nil, false)
					expectTake(t, l, b, a, nil, false)
				}
			}
		}
	}
}

// P23.2: written out for five floats.
func TestTakeByHand(t *testing.T) {
	l := of(0, 1, 0, 2, 0)
	rows := []struct {
		heads, n Counts
		want     []int
		ok       bool
	}{
		{Counts{}, Counts{}, nil, true},
		{Counts{}, Counts{1, 0, 0}, []int{0}, true},
		{Counts{}, Counts{0, 1, 0}, []int{1}, true},
		{Counts{}, Counts{0, 0, 1}, []int{3}, true},
		{Counts{}, Counts{2, 1, 0}, []int{0, 1, 2}, true},
		{Counts{}, Counts{2, 0, 1}, []int{0, 2, 3}, true},
		{Counts{}, Counts{3, 1, 1}, []int{0, 1, 2, 3, 4}, true},
		{Counts{}, Counts{4, 1, 1}, nil, false},
		{Counts{}, Counts{3, 2, 1}, nil, false},
		{Counts{}, Counts{3, 1, 2}, nil, false},
		{Counts{1, 0, 0}, Counts{1, 1, 0}, []int{1, 2}, true},
		{Counts{1, 1, 0}, Counts{2, 0, 1}, []int{2, 3, 4}, true},
		{Counts{2, 0, 0}, Counts{1, 1, 1}, []int{1, 3, 4}, true},
		{Counts{2, 0, 0}, Counts{2, 0, 0}, nil, false},
		{Counts{2, 1, 1}, Counts{1, 0, 0}, []int{4}, true},
		{Counts{2, 1, 1}, Counts{1, 1, 0}, nil, false},
		{Counts{3, 1, 1}, Counts{}, nil, true},
		{Counts{3, 1, 1}, Counts{1, 0, 0}, nil, false},
		{Counts{-1, 0, 0}, Counts{}, nil, false},
		{Counts{0, -1, 0}, Counts{1, 0, 0}, nil, false},
		{Counts{0, 0, -1}, Counts{1, 1, 2}, nil, false},
		{Counts{}, Counts{-1, 0, 0}, nil, false},
		{Counts{2, 0, 0}, Counts{1, -1, 0}, nil, false},
		{Counts{2, 0, 0}, Counts{1, 1, -1}, nil, false},
		{Counts{2, -1, 0}, Counts{-2, 1, 0}, nil, false},
		{Counts{-1, 0, 0}, Counts{2, 0, 0}, nil, false},
		{Counts{1, 0, 0}, Counts{most, 0, 0}, nil, false},
		{Counts{most, 0, 0}, Counts{1, 0, 0}, nil, false},
		{Counts{most, 0, 0}, Counts{most, 0, 0}, nil, false},
		{Counts{0, least, 0}, Counts{0, most, 0}, nil, false},
		{Counts{0, 0, most}, Counts{0, 0, least}, nil, false},
		{Counts{0, 0, 1}, Counts{0, 0, least}, nil, false},
	}
	for _, r := range rows {
		expectTake(t, l, r.heads, r.n, r.want, r.ok)
	}
}

// P23.2: a head at the end of the floats of its class has enough of them for an n
// of 0; one beyond the end has not (P6).
func TestTakeNothingBehindTheEnd(t *testing.T) {
	l := of(0, 1, 0, 2, 0)
	for c, end := range []int{3, 1, 1} {
		var heads Counts
		heads[c] = end
		expectTake(t, l, heads, Counts{}, nil, true)
		for _, beyond := range []int{end + 1, end + 2, 5, 6, 7, 8, far, most} {
			heads[c] = beyond
			expectTake(t, l, heads, Counts{}, nil, false)
			n := Counts{1, 1, 1}
			n[c] = 0
			expectTake(t, l, heads, n, nil, false)
		}
	}
}

// P23.2: floats of no valid class are never taken.
func TestTakeOfOtherClasses(t *testing.T) {
	l := of(-1, 0, 3, 1, least, most, 2, 0, 1<<32, -1<<32)
	expectTake(t, l, Counts{}, Counts{2, 1, 1}, []int{1, 3, 6, 7}, true)
	expectTake(t, l, Counts{1, 0, 0}, Counts{1, 1, 0}, []int{3, 7}, true)
	expectTake(t, l, Counts{}, Counts{3, 0, 0}, nil, false)
	expectTake(t, of(-1, 3, 4), Counts{}, Counts{}, nil, true)
	for c := range 3 {
		var n Counts
		n[c] = 1
		expectTake(t, of(-1, 3, 4, c+1<<32), Counts{}, n, nil, false)
	}
}

// tally counts, for each class, how many of the indices are floats of it.
func tally(l []api.Float, ids []int) Counts {
	var n Counts
	for _, id := range ids {
		for c := range n {
			for i := range l {
				if i == id && l[i].C == c {
					n[c]++
				}
			}
		}
	}
	return n
}

// indices are all lists of up to three indices in and around n floats.
func indices(n int) [][]int {
	all := [][]int{nil, {}, {least}, {most}, {0, most}, {far, 0}}
	for a := -1; a <= n; a++ {
		all = append(all, []int{a})
		for b := -1; b <= n; b++ {
			all = append(all, []int{a, b})
			for c := -1; c <= n; c++ {
				all = append(all, []int{a, b, c})
			}
		}
	}
	return all
}

// P23.2: the classes of all lists of indices, existing or not, repeated or not.
func TestOfEveryIndices(t *testing.T) {
	for _, l := range lists() {
		for _, ids := range indices(len(l)) {
			if got := Of(l, ids); got != tally(l, ids) {
				t.Errorf("%v: Of(%v) = %v", l, ids, got)
			}
		}
	}
}

// P23.2: written out.
func TestOfByHand(t *testing.T) {
	l := of(0, 1, 0, 2, 0, 3, -1)
	rows := []struct {
		ids  []int
		want Counts
	}{
		{nil, Counts{}},
		{[]int{}, Counts{}},
		{[]int{0}, Counts{1, 0, 0}},
		{[]int{1}, Counts{0, 1, 0}},
		{[]int{3}, Counts{0, 0, 1}},
		{[]int{0, 1, 2, 3, 4}, Counts{3, 1, 1}},
		{[]int{4, 3, 2, 1, 0}, Counts{3, 1, 1}},
		{[]int{3, 3, 3, 0, 3}, Counts{1, 0, 4}},
		{[]int{5}, Counts{}},
		{[]int{6}, Counts{}},
		{[]int{5, 6, 6, 1, 5}, Counts{0, 1, 0}},
		{[]int{7}, Counts{}},
		{[]int{8, 7, 0}, Counts{1, 0, 0}},
		{[]int{-1}, Counts{}},
		{[]int{-1, -2, 2, least, most}, Counts{1, 0, 0}},
		{slices.Repeat([]int{0, 1, 9}, 5000), Counts{5000, 5000, 0}},
	}
	for _, r := range rows {
		if got := Of(l, r.ids); got != r.want {
			t.Errorf("Of(%v) = %v, want %v", r.ids, got, r.want)
		}
	}
	if got := Of(of(0, least, most, 1<<32, 1<<32+1, -1<<32), []int{1, 2, 3, 4, 5}); got != (Counts{}) {
		t.Errorf("Of floats of no valid class = %v", got)
	}
}

// P23.2: Next holds of what Take returns for some n, and of nothing else.
func TestNextOfEveryIndices(t *testing.T) {
	for _, l := range lists() {
		if len(l) > 4 {
			continue
		}
		for _, heads := range counts(-1, size(l, 1)) {
			var results [][]int
			for _, n := range counts(0, size(l, 0)) {
				if ids, ok := take(l, heads, n); ok {
					results = append(results, ids)
				}
			}
			for _, ids := range append(results, indices(len(l))...) {
				want := slices.ContainsFunc(results, func(r []int) bool { return slices.Equal(r, ids) })
				expectNext(t, l, heads, ids, want)
			}
		}
	}
}

// like are lists of indices that differ from these in little.
func like(ids []int) [][]int {
	var all [][]int
	for i, id := range ids {
		less := slices.Delete(slices.Clone(ids), i, i+1)
		all = append(all, less, slices.Insert(slices.Clone(ids), i, id), append(less[:len(less):len(less)], id))
		for _, other := range []int{least, -1, 0, 1, 2, 3, 4, 5, 6, 7, most} {
			c := slices.Clone(ids)
			c[i] = other
			all = append(all, c)
		}
	}
	for _, more := range []int{least, -1, 0, 1, 2, 3, 4, 5, 6, most} {
		all = append(all, append(slices.Clone(ids), more), append([]int{more}, ids...))
	}
	turned := slices.Clone(ids)
	slices.Reverse(turned)
	return append(all, turned, ids)
}

// P23.2: in lists of up to six floats, indices that are almost the next ones.
func TestNextOfNothingElse(t *testing.T) {
	random := rand.New(rand.NewSource(7))
	for _, l := range lists() {
		all := counts(0, size(l, 0))
		for range 20 {
			heads, n := all[random.Intn(len(all))], all[random.Intn(len(all))]
			for c := range n {
				n[c] = min(n[c], len(places(l, c))-heads[c])
			}
			ids, _ := take(l, heads, n)
			for _, other := range like(ids) {
				want, ok := take(l, heads, tally(l, other))
				expectNext(t, l, heads, other, ok && slices.Equal(want, other))
			}
		}
	}
}

// P23.2: written out for seven floats, two of them of no valid class.
func TestNextByHand(t *testing.T) {
	l := of(0, 1, 0, 2, 0, 3, -1)
	rows := []struct {
		heads Counts
		ids   []int
		want  bool
	}{
		{Counts{}, nil, true},
		{Counts{}, []int{}, true},
		{Counts{}, []int{0}, true},
		{Counts{}, []int{1}, true},
		{Counts{}, []int{3}, true},
		{Counts{}, []int{2}, false},
		{Counts{}, []int{4}, false},
		{Counts{}, []int{0, 1, 2, 3, 4}, true},
		{Counts{}, []int{0, 2}, true},
		{Counts{}, []int{2, 0}, false},
		{Counts{}, []int{1, 0}, false},
		{Counts{}, []int{3, 1}, false},
		{Counts{}, []int{1, 3}, true},
		{Counts{}, []int{0, 4}, false},
		{Counts{}, []int{2, 4}, false},
		{Counts{}, []int{0, 0}, false},
		{Counts{}, []int{0, 0, 2}, false},
		{Counts{}, []int{0, 2, 2}, false},
		{Counts{}, []int{1, 1}, false},
		{Counts{}, []int{5}, false},
		{Counts{}, []int{6}, false},
		{Counts{}, []int{0, 5}, false},
		{Counts{}, []int{0, 1, 2, 3, 4, 6}, false},
		{Counts{}, []int{7}, false},
		{Counts{}, []int{0, 7}, false},
		{Counts{}, []int{-1}, false},
		{Counts{}, []int{-1, 0}, false},
		{Counts{}, []int{most}, false},
		{Counts{}, []int{least}, false},
		{Counts{1, 0, 0}, []int{1, 2}, true},
		{Counts{1, 0, 0}, []int{2, 3, 4}, true},
		{Counts{1, 0, 0}, []int{0}, false},
		{Counts{1, 0, 0}, []int{4}, false},
		{Counts{2, 1, 0}, []int{3, 4}, true},
		{Counts{2, 1, 0}, []int{1, 4}, false},
		{Counts{3, 1, 1}, nil, true},
		{Counts{3, 1, 1}, []int{0}, false},
		{Counts{3, 1, 1}, []int{5}, false},
		{Counts{3, 0, 0}, []int{1}, true},
		{Counts{4, 0, 0}, []int{1}, false},
		{Counts{4, 0, 0}, nil, false},
		{Counts{0, 2, 0}, nil, false},
		{Counts{0, 0, most}, []int{}, false},
		{Counts{0, 0, most}, []int{0}, false},
		{Counts{-1, 0, 0}, nil, false},
		{Counts{-1, 0, 0}, []int{0}, false},
		{Counts{-1, 0, 0}, []int{1}, false},
		{Counts{0, -1, 0}, []int{0}, false},
		{Counts{0, 0, least}, []int{}, false},
	}
	for _, r := range rows {
		expectNext(t, l, r.heads, r.ids, r.want)
	}
}

// upTo is the text of Up.
func upTo(m Counts, sum int) []Counts {
	for c := range m {
		m[c] = min(m[c], 32)
	}
	var all []Counts
	for _, c := range counts(0, m) {
		if c[0]+c[1]+c[2] <= sum {
			all = append(all, c)
		}
	}
	return all
}

func expectUp(t *testing.T, m Counts, sum int, want []Counts) {
	t.Helper()
	if got := Up(m, sum); !slices.Equal(got, want) {
		t.Errorf("Up(%v, %d) = %v, want %v", m, sum, got, want)
	}
}

// P23.3: all small numbers, with every sum from below 0 to beyond all of them.
func TestUpOfSmallNumbers(t *testing.T) {
	for _, m := range counts(-1, Counts{4, 4, 4}) {
		for sum := -2; sum <= 14; sum++ {
			expectUp(t, m, sum, upTo(m, sum))
		}
		expectUp(t, m, least, nil)
		expectUp(t, m, most, upTo(m, most))
	}
}

// P23.3: numbers at 32, around it and far above it, in each class.
func TestUpOfGreatNumbers(t *testing.T) {
	for _, n := range []int{30, 31, 32, 33, 34, 64, far, 1 << 32, 1<<32 + 1, most - 1, most} {
		for c := range 3 {
			m := Counts{1, 2, 1}
			m[c] = n
			for _, sum := range []int{least, -1, 0, 1, 5, 30, 31, 32, 33, 34, 35, 36, 37, most} {
				expectUp(t, m, sum, upTo(m, sum))
			}
		}
	}
	for _, m := range []Counts{{32, 32, 32}, {33, 33, 33}, {most, most, most}} {
		if got := len(Up(m, most)); got != 33*33*33 {
			t.Errorf("%d counts up to %v", got, m)
		}
		if got := len(Up(m, 96)); got != 33*33*33 {
			t.Errorf("%d counts up to %v with a sum of 96", got, m)
		}
		if got := len(Up(m, 95)); got != 33*33*33-1 {
			t.Errorf("%d counts up to %v with a sum of 95", got, m)
		}
		expectUp(t, m, 40, upTo(m, 40))
	}
}

// P23.3: written out.
func TestUpByHand(t *testing.T) {
	rows := []struct {
		m    Counts
		sum  int
		want []Counts
	}{
		{Counts{}, 0, []Counts{{}}},
		{Counts{}, 5, []Counts{{}}},
		{Counts{}, -1, nil},
		{Counts{1, 1, 1}, 0, []Counts{{}}},
		{Counts{1, 1, 1}, 1, []Counts{{0, 0, 0}, {0, 0, 1}, {0, 1, 0}, {1, 0, 0}}},
		{Counts{1, 1, 1}, 2, []Counts{{0, 0, 0}, {0, 0, 1}, {0, 1, 0}, {0, 1, 1}, {1, 0, 0}, {1, 0, 1}, {1, 1, 0}}},
		{Counts{1, 1, 1}, 3, []Counts{{0, 0, 0}, {0, 0, 1}, {0, 1, 0}, {0, 1, 1}, {1, 0, 0}, {1, 0, 1}, {1, 1, 0}, {1, 1, 1}}},
		{Counts{1, 1, 1}, -1, nil},
		{Counts{1, 1, 1}, least, nil},
		{Counts{2, 0, 1}, 2, []Counts{{0, 0, 0}, {0, 0, 1}, {1, 0, 0}, {1, 0, 1}, {2, 0, 0}}},
		{Counts{0, 2, 1}, most, []Counts{{0, 0, 0}, {0, 0, 1}, {0, 1, 0}, {0, 1, 1}, {0, 2, 0}, {0, 2, 1}}},
		{Counts{most, 0, 0}, 2, []Counts{{0, 0, 0}, {1, 0, 0}, {2, 0, 0}}},
		{Counts{0, most, most}, 1, []Counts{{0, 0, 0}, {0, 0, 1}, {0, 1, 0}}},
		{Counts{-1, 1, 1}, 2, nil},
		{Counts{1, -1, 1}, 2, nil},
		{Counts{1, 1, -1}, 2, nil},
		{Counts{least, 1, 1}, 2, nil},
		{Counts{1, least, 1}, most, nil},
		{Counts{most, most, least}, most, nil},
		{Counts{-1, -1, -1}, -3, nil},
	}
	for _, r := range rows {
		expectUp(t, r.m, r.sum, r.want)
	}
}

// P23.4: what two successive calls of Take return is, together and sorted, what a
// single one returns.
func TestSuccessiveTakes(t *testing.T) {
	for _, l := range lists() {
		if len(l) > 4 {
			continue
		}
		size := size(l, 0)
		for _, heads := range counts(0, size) {
			for _, n := range counts(0, size) {
				for _, m := range counts(0, size) {
					expectTogether(t, l, heads, n, m)
				}
			}
		}
	}
}

// P23.4: some successive calls for lists of up to six floats.
func TestSuccessiveTakesOfMoreFloats(t *testing.T) {
	random := rand.New(rand.NewSource(3))
	for _, l := range lists() {
		for range 100 {
			var heads, n, m Counts
			for c := range heads {
				left := len(places(l, c))
				heads[c] = random.Intn(left + 1)
				n[c] = random.Intn(left - heads[c] + 1)
				m[c] = random.Intn(left - heads[c] - n[c] + 1)
			}
			expectTogether(t, l, heads, n, m)
		}
	}
}

func expectTogether(t *testing.T, l []api.Float, heads, n, m Counts) {
	t.Helper()
	var behind, all Counts
	for c := range all {
		behind[c], all[c] = heads[c]+n[c], n[c]+m[c]
	}
	one, ok1 := Take(l, heads, n)
	two, ok2 := Take(l, behind, m)
	single, ok := Take(l, heads, all)
	if ok != (ok1 && ok2) {
		t.Errorf("%v: Take from %v: %v and %v succeed: %v, %v, together: %v", l, heads, n, m, ok1, ok2, ok)
	}
	if !ok {
		return
	}
	if both := slices.Sorted(slices.Values(slices.Concat(one, two))); !slices.Equal(both, single) {
		t.Errorf("%v: Take from %v: %v, then %v is %v, together: %v", l, heads, n, m, both, single)
	}
}

// P23.2: lists without floats, nil or empty.
func TestEmptyLists(t *testing.T) {
	for _, l := range [][]api.Float{nil, {}} {
		expectTake(t, l, Counts{}, Counts{}, nil, true)
		for _, x := range []int{least, -1, 1, most} {
			for c := range 3 {
				var n Counts
				n[c] = x
				expectTake(t, l, Counts{}, n, nil, false)
				expectTake(t, l, n, Counts{}, nil, false)
				expectNext(t, l, n, nil, false)
				expectNext(t, l, n, []int{0}, false)
			}
		}
		for _, ids := range [][]int{nil, {}, {0}, {-1}, {0, 1}, {least, most}} {
			if got := Of(l, ids); got != (Counts{}) {
				t.Errorf("Of(%v) without floats = %v", ids, got)
			}
			expectNext(t, l, Counts{}, ids, len(ids) == 0)
		}
	}
}

// P23.2, P4: the lists that are passed read as before, also behind their ends.
func TestArgumentsAreUnchanged(t *testing.T) {
	floats := of(0, 1, 0, 2, 0, 3, -1, 1, 0)
	ids := []int{2, 0, 1, 1, 7, -1, 4}
	was, were := slices.Clone(floats), slices.Clone(ids)
	l, some := floats[1:6], ids[1:4]
	for _, heads := range counts(-1, Counts{3, 3, 3}) {
		for _, n := range counts(-1, Counts{3, 3, 3}) {
			Take(l, heads, n)
		}
		Next(l, heads, some)
		Next(l, heads, nil)
		Of(l, some)
	}
	if !slices.Equal(floats, was) || !slices.Equal(ids, were) {
		t.Errorf("changed: %v, %v", floats, ids)
	}
}

// P23.1, P4: counts that are passed read as before.
func TestCountsAreUnchanged(t *testing.T) {
	a, b := Counts{far + 1, -far - 1, 3}, Counts{40, 41, 42}
	a.Add(b)
	a.Sum()
	a.Within(b)
	b.Within(a)
	Ready(a, b)
	Take(of(0, 1, 2), a, b)
	Next(of(0, 1, 2), b, []int{0})
	Up(b, 3)
	if a != (Counts{far + 1, -far - 1, 3}) || b != (Counts{40, 41, 42}) {
		t.Errorf("changed: %v, %v", a, b)
	}
}

// P23.2, P23.3: results are memory of their own; writing to one changes no other.
func TestResultsAreTheirOwn(t *testing.T) {
	l := of(0, 1, 0, 2)
	one, _ := Take(l, Counts{}, Counts{2, 1, 1})
	for i := range one {
		one[i] = 99
	}
	expectTake(t, l, Counts{}, Counts{2, 1, 1}, []int{0, 1, 2, 3}, true)
	all := Up(Counts{1, 1, 0}, 2)
	for i := range all {
		all[i] = Counts{9, 9, 9}
	}
	expectUp(t, Counts{1, 1, 0}, 2, []Counts{{0, 0, 0}, {0, 1, 0}, {1, 0, 0}, {1, 1, 0}})
}

// P23.1 to P23.3, P5: calls at once return the same as calls one after the other.
func TestCallsAtOnce(t *testing.T) {
	l := of(0, 1, 0, 2, 0)
	var group sync.WaitGroup
	for range 8 {
		group.Go(func() {
			for _, heads := range counts(-1, Counts{2, 1, 1}) {
				for _, n := range counts(0, Counts{2, 1, 1}) {
					want, ok := take(l, heads, n)
					expectTake(t, l, heads, n, want, ok)
					if ok {
						expectNext(t, l, heads, want, true)
					}
				}
				expectUp(t, heads, 3, upTo(heads, 3))
			}
		})
	}
	group.Wait()
}
