package cost

import (
	"math"
	"math/big"
	"slices"
	"testing"

	"tympan/api"
)

const top = api.MaxSum

// numbers are those about the ends of the range of valid ones, and of the type.
func numbers() []int64 {
	return []int64{
		math.MinInt64, math.MinInt64 + 1, -top - 1, -top, -top + 1, -3, -1, 0, 1, 2,
		7, top / 2, top/2 + 1, top - 2, top - 1, top, top + 1, top + 2, 2 * top,
		math.MaxInt64 - top, math.MaxInt64 - 1, math.MaxInt64,
	}
}

// costs are all pairs of numbers.
func costs() []api.Cost {
	var l []api.Cost
	for _, over := range numbers() {
		for _, sum := range numbers() {
			l = append(l, api.Cost{Over: int(over), Sum: sum})
		}
	}
	return l
}

// validCosts are the valid ones of costs, by the text of the definition.
func validCosts() []api.Cost {
	return slices.DeleteFunc(costs(), func(c api.Cost) bool {
		return c.Over < 0 || c.Over > top || c.Sum < 0 || c.Sum > top
	})
}

// exactSum adds numbers in exact arithmetic, by the text of the promise.
func exactSum(l ...int64) int64 {
	limit, sum := big.NewInt(top), new(big.Int)
	for _, n := range l {
		b := big.NewInt(n)
		if b.Sign() < 0 {
			b.SetInt64(0)
		}
		if b.Cmp(limit) > 0 {
			b.Set(limit)
		}
		sum.Add(sum, b)
	}
	if sum.Cmp(limit) > 0 {
		return top
	}
	return sum.Int64()
}

func exactAdd(a, b api.Cost) api.Cost {
	return api.Cost{
		Over: int(exactSum(int64(a.Over), int64(b.Over))),
		Sum:  exactSum(a.Sum, b.Sum),
	}
}

// exactCmp compares costs as pairs, one number after the other.
func exactCmp(a, b api.Cost) int {
	if a == b {
		return 0
	}
	if a.Over < b.Over || a.Over == b.Over && a.Sum < b.Sum {
		return -1
	}
	return 1
}

func TestExamples(t *testing.T) { // P4.1
	if got, want := Add(api.Cost{Over: 1, Sum: 5}, api.Cost{Sum: 7}), (api.Cost{Over: 1, Sum: 12}); got != want {
		t.Errorf("Add: %v, want %v", got, want)
	}
	if !Less(api.Cost{Sum: 99}, api.Cost{Over: 1}) || Less(api.Cost{Over: 1}, api.Cost{Sum: 99}) {
		t.Error("{0, 99} is less than {1, 0}")
	}
}

func TestRight(t *testing.T) { // P4.1
	for _, x := range []struct {
		n    int64
		want bool
	}{
		{0, true}, {1, true}, {-1, false}, {top - 1, true}, {top, true}, {top + 1, false},
		{math.MaxInt64, false}, {math.MinInt64, false},
	} {
		for _, other := range []int64{0, 9, top} {
			if got := Right(api.Cost{Over: int(x.n), Sum: other}); got != x.want {
				t.Errorf("Right({%d, %d}): %v", x.n, other, got)
			}
			if got := Right(api.Cost{Over: int(other), Sum: x.n}); got != x.want {
				t.Errorf("Right({%d, %d}): %v", other, x.n, got)
			}
		}
	}
	valid := validCosts()
	for _, c := range costs() {
		if got := Right(c); got != slices.Contains(valid, c) {
			t.Errorf("Right(%v): %v", c, got)
		}
	}
}

func TestAddAtTheLimit(t *testing.T) { // P4.1
	for _, x := range []struct{ a, b, want int64 }{
		{0, 0, 0}, {2, 3, 5}, {-1, 4, 4}, {4, -1, 4}, {-5, -6, 0},
		{top - 1, 1, top}, {top - 1, 2, top}, {top - 2, 1, top - 1}, {top, 0, top},
		{top, 1, top}, {top, top, top}, {top, -1, top}, {top + 1, 0, top},
		{top + 1, -1, top}, {top / 2, top / 2, top}, {top / 2, top/2 - 1, top - 1},
		{math.MaxInt64, math.MaxInt64, top}, {math.MaxInt64, math.MinInt64, top},
		{math.MinInt64, math.MinInt64, 0}, {math.MinInt64, 8, 8},
	} {
		got := Add(api.Cost{Over: int(x.a), Sum: 6}, api.Cost{Over: int(x.b), Sum: 1})
		if want := (api.Cost{Over: int(x.want), Sum: 7}); got != want {
			t.Errorf("Overs %d and %d: %v, want %v", x.a, x.b, got, want)
		}
		got = Add(api.Cost{Over: 6, Sum: x.a}, api.Cost{Over: 1, Sum: x.b})
		if want := (api.Cost{Over: 7, Sum: x.want}); got != want {
			t.Errorf("Sums %d and %d: %v, want %v", x.a, x.b, got, want)
		}
	}
}

func TestAddIsExact(t *testing.T) { // P4.1
	l := costs()
	for _, a := range l {
		for _, b := range l {
			if got, want := Add(a, b), exactAdd(a, b); got != want {
				t.Fatalf("Add(%v, %v): %v, want %v", a, b, got, want)
			}
		}
	}
}

func TestCmpTakesNumbersAsTheyAre(t *testing.T) { // P4.1
	for _, x := range []struct {
		a, b api.Cost
		want int
	}{
		{api.Cost{Over: 2, Sum: 5}, api.Cost{Over: 2, Sum: 5}, 0},
		{api.Cost{Over: 2, Sum: 4}, api.Cost{Over: 2, Sum: 5}, -1},
		{api.Cost{Over: 1, Sum: top}, api.Cost{Over: 2}, -1},
		{api.Cost{Sum: -2}, api.Cost{Sum: -1}, -1},
		{api.Cost{Over: -2, Sum: 9}, api.Cost{Over: -1}, -1},
		{api.Cost{Sum: -1}, api.Cost{}, -1},
		{api.Cost{Sum: top}, api.Cost{Sum: top + 1}, -1},
		{api.Cost{Over: top, Sum: 9}, api.Cost{Over: top + 1}, -1},
		{api.Cost{Sum: math.MinInt64}, api.Cost{Sum: math.MaxInt64}, -1},
		{api.Cost{Over: math.MinInt}, api.Cost{Over: math.MaxInt}, -1},
	} {
		if Cmp(x.a, x.b) != x.want || Cmp(x.b, x.a) != -x.want {
			t.Errorf("Cmp of %v and %v: %d and %d", x.a, x.b, Cmp(x.a, x.b), Cmp(x.b, x.a))
		}
	}
}

func TestCmpAndLessOfAllPairs(t *testing.T) { // P4.1
	l := costs()
	for _, a := range l {
		for _, b := range l {
			want := exactCmp(a, b)
			if Cmp(a, b) != want || Less(a, b) != (want < 0) {
				t.Fatalf("%v and %v: Cmp %d, Less %v", a, b, Cmp(a, b), Less(a, b))
			}
		}
	}
}

func TestOf(t *testing.T) { // P4.2
	for _, x := range []struct {
		demerits []int64
		want     int64
	}{
		{nil, 0}, {[]int64{}, 0}, {[]int64{0}, 0}, {[]int64{3, 4, -9}, 7},
		{[]int64{-9, 3, 4}, 7}, {[]int64{-1}, 0}, {[]int64{top}, top},
		{[]int64{top - 1, 1}, top}, {[]int64{top - 1, 2}, top}, {[]int64{top + 1}, top},
		{[]int64{top, -5}, top}, {[]int64{math.MaxInt64, math.MaxInt64, 1}, top},
		{[]int64{math.MinInt64, 5}, 5}, {[]int64{math.MinInt64, math.MinInt64}, 0},
		{[]int64{1, 2, 3, 4, 5}, 15},
	} {
		kept := slices.Clone(x.demerits)
		if got := Of(false, x.demerits...); got != (api.Cost{Sum: x.want}) {
			t.Errorf("Of(false, %v): %v, want Sum %d", x.demerits, got, x.want)
		}
		if got := Of(true, x.demerits...); got != (api.Cost{Over: 1, Sum: x.want}) {
			t.Errorf("Of(true, %v): %v, want Sum %d", x.demerits, got, x.want)
		}
		if !slices.Equal(kept, x.demerits) {
			t.Errorf("demerits have changed: %v", x.demerits)
		}
	}
	for _, a := range numbers() {
		for _, b := range numbers() {
			if got := Of(true, a, b, 3); got != (api.Cost{Over: 1, Sum: exactSum(a, b, 3)}) {
				t.Fatalf("Of(true, %d, %d, 3): %v", a, b, got)
			}
		}
	}
}

func TestLeast(t *testing.T) { // P4.2
	a, b, c := api.Cost{Sum: 7}, api.Cost{Sum: 8}, api.Cost{Over: 1}
	below := api.Cost{Over: -1, Sum: math.MaxInt64}
	for _, x := range []struct {
		l    []api.Cost
		want int
	}{
		{nil, -1}, {[]api.Cost{}, -1}, {[]api.Cost{c}, 0}, {[]api.Cost{below}, 0},
		{[]api.Cost{a, b, c}, 0}, {[]api.Cost{c, b, a}, 2}, {[]api.Cost{c, a, b}, 1},
		{[]api.Cost{a, a, a}, 0}, {[]api.Cost{c, a, a}, 1}, {[]api.Cost{b, a, c, a}, 1},
		{[]api.Cost{a, b, below, below}, 2}, {[]api.Cost{{Sum: top + 1}, {Sum: top}}, 1},
		{[]api.Cost{{Sum: -1}, {Sum: -2}, {}}, 1},
	} {
		kept := slices.Clone(x.l)
		if got := Least(x.l...); got != x.want {
			t.Errorf("Least(%v): %d, want %d", x.l, got, x.want)
		}
		if !slices.Equal(kept, x.l) {
			t.Errorf("the costs have changed: %v", x.l)
		}
	}
}

// TestLeastOfAllTriples looks for the index by the text of the promise.
func TestLeastOfAllTriples(t *testing.T) { // P4.2
	few := []api.Cost{{}, {Sum: 1}, {Over: 1}, {Over: 1, Sum: -1}, {Sum: top + 1}, {Over: -1, Sum: 5}}
	for _, a := range few {
		for _, b := range few {
			for _, c := range few {
				l := []api.Cost{a, b, c}
				want := slices.IndexFunc(l, func(x api.Cost) bool {
					return !slices.ContainsFunc(l, func(y api.Cost) bool { return exactCmp(y, x) < 0 })
				})
				if got := Least(l...); got != want {
					t.Errorf("Least(%v): %d, want %d", l, got, want)
				}
			}
		}
	}
}

func TestSum(t *testing.T) { // P4.2
	var s Sum
	if got := s.Cost(); got != (api.Cost{}) {
		t.Errorf("before any Put: %v", got)
	}
	for _, x := range []struct{ put, want api.Cost }{
		{api.Cost{Over: 1, Sum: 5}, api.Cost{Over: 1, Sum: 5}},
		{api.Cost{Sum: 7}, api.Cost{Over: 1, Sum: 12}},
		{api.Cost{}, api.Cost{Over: 1, Sum: 12}},
		{api.Cost{Over: -4, Sum: -4}, api.Cost{Over: 1, Sum: 12}},
		{api.Cost{Over: 2, Sum: top - 12}, api.Cost{Over: 3, Sum: top}},
		{api.Cost{Over: 2, Sum: 1}, api.Cost{Over: 5, Sum: top}},
		{api.Cost{Over: math.MaxInt, Sum: math.MinInt64}, api.Cost{Over: top, Sum: top}},
		{api.Cost{Over: 1, Sum: math.MaxInt64}, api.Cost{Over: top, Sum: top}},
	} {
		s.Put(x.put)
		if first, again := s.Cost(), s.Cost(); first != x.want || again != x.want {
			t.Errorf("after Put(%v): %v and %v, want %v", x.put, first, again, x.want)
		}
	}
	var other Sum
	other.Put(api.Cost{Over: -1, Sum: top + 1})
	if got := other.Cost(); got != (api.Cost{Sum: top}) {
		t.Errorf("a first cost that is not valid: %v", got)
	}
}

func TestNilSum(t *testing.T) { // P4.2
	var s *Sum
	s.Put(api.Cost{Over: 1, Sum: 5})
	if got := s.Cost(); got != (api.Cost{}) {
		t.Errorf("Cost of nil: %v", got)
	}
}

func TestSumDoesNotDependOnOrder(t *testing.T) { // P4.3
	l := validCosts()
	for _, a := range l {
		if Add(a, api.Cost{}) != a || Add(api.Cost{}, a) != a {
			t.Errorf("adding zero changes %v", a)
		}
		for _, b := range l {
			if Add(a, b) != Add(b, a) {
				t.Fatalf("%v and %v: the order matters", a, b)
			}
			for _, c := range []api.Cost{{Over: 1, Sum: 1}, {Over: 2, Sum: top}, {Over: top - 1, Sum: 7}} {
				if Add(Add(a, b), c) != Add(a, Add(b, c)) {
					t.Fatalf("%v, %v and %v: the grouping matters", a, b, c)
				}
			}
		}
	}
}

func TestSumOfAllOrders(t *testing.T) { // P4.3
	l := []api.Cost{{Over: 1, Sum: 5}, {Sum: top - 6}, {Over: top - 1}, {Over: 3, Sum: 3}}
	want := api.Cost{Over: top, Sum: top}
	for i := range 256 {
		order := []int{i & 3, i >> 2 & 3, i >> 4 & 3, i >> 6}
		if sorted := slices.Sorted(slices.Values(order)); !slices.Equal(sorted, []int{0, 1, 2, 3}) {
			continue
		}
		var s Sum
		for _, k := range order {
			s.Put(l[k])
		}
		if got := s.Cost(); got != want {
			t.Errorf("in the order %v: %v", order, got)
		}
	}
}

func TestAddKeepsTheOrder(t *testing.T) { // P4.3
	l := validCosts()
	for _, a := range l {
		for _, b := range l {
			for _, c := range l {
				x, y := Add(a, c), Add(b, c)
				if x.Over == top || y.Over == top {
					continue
				}
				if !Less(a, b) && Less(x, y) {
					t.Fatalf("%v is not less than %v, but it is with %v", a, b, c)
				}
			}
		}
	}
}
