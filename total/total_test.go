package total

import (
	"math"
	"math/big"
	"slices"
	"testing"

	"tympan/api"
)

const (
	least = api.Sp(math.MinInt64)
	most  = api.Sp(math.MaxInt64)
	high  = api.Sp(1 << 50)
)

// numbers are those about 0, about 2^50, and about both ends of the range and
// their halves.
func numbers() []api.Sp {
	return []api.Sp{
		least, least + 1, least/2 - 1, least / 2, -high, -7, -1, 0, 1, 2, 9,
		high - 1, high, high + 1, most / 2, most/2 + 1, most - 1, most,
	}
}

// fieldNames and pointers list the fields of a total in the same order.
func fieldNames() []string {
	return []string{"Nat", "Str[0]", "Str[1]", "Str[2]", "Str[3]", "Shr"}
}

func pointers(t *api.Total) []*api.Sp {
	return []*api.Sp{&t.Nat, &t.Str[0], &t.Str[1], &t.Str[2], &t.Str[3], &t.Shr}
}

// mixed is a total whose fields are all different from each other.
func mixed() api.Total {
	return api.Total{Nat: 16, Str: [4]api.Sp{7, -2, 0, 11}, Shr: 3}
}

// with returns t with one field set to x.
func with(t api.Total, field int, x api.Sp) api.Total {
	*pointers(&t)[field] = x
	return t
}

// exactly applies an operation on exact numbers field by field, by the text of
// the promise.
func exactly(a, b api.Total, by func(z, x, y *big.Int) *big.Int) (api.Total, bool) {
	var r api.Total
	for i, p := range pointers(&r) {
		x := big.NewInt(int64(*pointers(&a)[i]))
		y := big.NewInt(int64(*pointers(&b)[i]))
		z := by(new(big.Int), x, y)
		if !z.IsInt64() {
			return api.Total{}, false
		}
		*p = api.Sp(z.Int64())
	}
	return r, true
}

func wantTotal(t *testing.T, what string, got api.Total, ok bool, want api.Total, wantOK bool) {
	t.Helper()
	if got != want || ok != wantOK {
		t.Errorf("%s: %v %v, not %v %v", what, got, ok, want, wantOK)
	}
}

// P7.1: the chapter's example.
func TestExample(t *testing.T) {
	sum, ok := Add(Box(10), Glue(5, 2, 1, 3))
	wantTotal(t, "Add", sum, ok, api.Total{Nat: 15, Str: [4]api.Sp{0, 2, 0, 0}, Shr: 3}, true)
	if ord := Order(sum); ord != 1 {
		t.Errorf("Order: %d", ord)
	}
	if low, ok := Least(sum); low != 12 || !ok {
		t.Errorf("Least: %d %v", low, ok)
	}
}

// P7.1: a box has its height and nothing else.
func TestBox(t *testing.T) {
	for _, h := range numbers() {
		if got := Box(h); got != (api.Total{Nat: h}) {
			t.Errorf("Box(%d): %v", h, got)
		}
	}
}

// P7.1: the stretch of a glue stands at its order, or nowhere.
func TestGlue(t *testing.T) {
	for _, n := range numbers() {
		for _, x := range []struct {
			ord int
			str [4]api.Sp
		}{
			{0, [4]api.Sp{n, 0, 0, 0}},
			{1, [4]api.Sp{0, n, 0, 0}},
			{2, [4]api.Sp{0, 0, n, 0}},
			{3, [4]api.Sp{0, 0, 0, n}},
			{-1, [4]api.Sp{}},
			{-4, [4]api.Sp{}},
			{4, [4]api.Sp{}},
			{5, [4]api.Sp{}},
			{256, [4]api.Sp{}},
			{math.MinInt, [4]api.Sp{}},
			{math.MaxInt, [4]api.Sp{}},
		} {
			for _, other := range numbers() {
				if got := Glue(other, n, x.ord, 5); got != (api.Total{Nat: other, Str: x.str, Shr: 5}) {
					t.Errorf("Glue(%d, %d, %d, 5): %v", other, n, x.ord, got)
				}
				if got := Glue(6, n, x.ord, other); got != (api.Total{Nat: 6, Str: x.str, Shr: other}) {
					t.Errorf("Glue(6, %d, %d, %d): %v", n, x.ord, other, got)
				}
			}
		}
	}
}

// P7.1: every field of a is paired with the same field of b.
func TestAddAndSubWrittenOut(t *testing.T) {
	a := api.Total{Nat: 100, Str: [4]api.Sp{200, 300, 400, 500}, Shr: 600}
	b := api.Total{Nat: 1, Str: [4]api.Sp{-2, 3, -4, 5}, Shr: -6}
	sum, ok := Add(a, b)
	wantTotal(t, "Add", sum, ok, api.Total{Nat: 101, Str: [4]api.Sp{198, 303, 396, 505}, Shr: 594}, true)
	diff, ok := Sub(a, b)
	wantTotal(t, "Sub", diff, ok, api.Total{Nat: 99, Str: [4]api.Sp{202, 297, 404, 495}, Shr: 606}, true)
	diff, ok = Sub(b, a)
	wantTotal(t, "Sub the other way", diff, ok, api.Total{Nat: -99, Str: [4]api.Sp{-202, -297, -404, -495}, Shr: -606}, true)
	sum, ok = Add(api.Total{}, api.Total{})
	wantTotal(t, "Add of nothing", sum, ok, api.Total{}, true)
	diff, ok = Sub(a, a)
	wantTotal(t, "Sub of itself", diff, ok, api.Total{}, true)
}

// P7.1: one field that overflows, whichever it is, leads to a zero total and
// false; at the border it does not overflow.
func TestOneFieldAtTheBorder(t *testing.T) {
	for _, c := range []struct {
		what string
		call func(a, b api.Total) (api.Total, bool)
		x, y api.Sp
		want api.Sp
		ok   bool
	}{
		{"Add", Add, most, 1, 0, false},
		{"Add", Add, 1, most, 0, false},
		{"Add", Add, most, most, 0, false},
		{"Add", Add, most/2 + 1, most/2 + 1, 0, false},
		{"Add", Add, least, -1, 0, false},
		{"Add", Add, -1, least, 0, false},
		{"Add", Add, least, least, 0, false},
		{"Add", Add, most, 0, most, true},
		{"Add", Add, most - 1, 1, most, true},
		{"Add", Add, least, 0, least, true},
		{"Add", Add, least + 1, -1, least, true},
		{"Add", Add, least, most, -1, true},
		{"Add", Add, least / 2, least / 2, least, true},
		{"Sub", Sub, most, -1, 0, false},
		{"Sub", Sub, 0, least, 0, false},
		{"Sub", Sub, most, least, 0, false},
		{"Sub", Sub, least, 1, 0, false},
		{"Sub", Sub, -2, most, 0, false},
		{"Sub", Sub, least, most, 0, false},
		{"Sub", Sub, -1, least, most, true},
		{"Sub", Sub, -1, most, least, true},
		{"Sub", Sub, 0, most, -most, true},
		{"Sub", Sub, most, most, 0, true},
		{"Sub", Sub, least, least, 0, true},
	} {
		for i, name := range fieldNames() {
			for _, rest := range []api.Total{{}, mixed()} {
				got, ok := c.call(with(rest, i, c.x), with(api.Total{}, i, c.y))
				want := api.Total{}
				if c.ok {
					want = with(rest, i, c.want)
				}
				if got != want || ok != c.ok {
					t.Errorf("%s of %d and %d as %s beside %v: %v %v, not %v %v", c.what, c.x, c.y, name, rest, got, ok, want, c.ok)
				}
			}
		}
	}
}

// P7.1: totals with all fields at an end of the range.
func TestAllFieldsAtTheBorder(t *testing.T) {
	all := func(x api.Sp) api.Total {
		return api.Total{Nat: x, Str: [4]api.Sp{x, x, x, x}, Shr: x}
	}
	for _, x := range numbers() {
		for _, y := range numbers() {
			want, wantOK := exactly(all(x), all(y), (*big.Int).Add)
			got, ok := Add(all(x), all(y))
			wantTotal(t, "Add", got, ok, want, wantOK)
			want, wantOK = exactly(all(x), all(y), (*big.Int).Sub)
			got, ok = Sub(all(x), all(y))
			wantTotal(t, "Sub", got, ok, want, wantOK)
		}
	}
}

// rotated are totals whose fields are numbers that stand next to each other in
// the list, so that many pairs of them overflow in some fields only.
func rotated() []api.Total {
	n := numbers()
	var l []api.Total
	for i := range n {
		for _, step := range []int{1, 5} {
			var t api.Total
			for k, p := range pointers(&t) {
				*p = n[(i+k*step)%len(n)]
			}
			l = append(l, t)
		}
	}
	small := []api.Total{{}, mixed(), Box(9), Glue(5, 2, 1, 3), Glue(-5, -2, 3, -3)}
	return append(l, small...)
}

// P7.1, P7.2: Add and Sub agree with exact arithmetic, and Sub undoes Add.
func TestAddAndSubAreExact(t *testing.T) {
	fit, not := 0, 0
	for _, a := range rotated() {
		for _, b := range rotated() {
			want, wantOK := exactly(a, b, (*big.Int).Add)
			sum, ok := Add(a, b)
			wantTotal(t, "Add", sum, ok, want, wantOK)
			want, wantOK = exactly(a, b, (*big.Int).Sub)
			diff, diffOK := Sub(a, b)
			wantTotal(t, "Sub", diff, diffOK, want, wantOK)
			if !ok {
				not++
				continue
			}
			fit++
			back, ok := Sub(sum, b)
			wantTotal(t, "Sub after Add", back, ok, a, true)
		}
	}
	if fit == 0 || not == 0 {
		t.Errorf("%d sums fit and %d do not: both are to be tested", fit, not)
	}
}

// P7.2: Sub undoes Add also where a field of the sum is at an end of the range.
func TestSubUndoesAddAtTheBorder(t *testing.T) {
	for i, name := range fieldNames() {
		for _, x := range [][2]api.Sp{
			{most, 0}, {most - 1, 1}, {1, most - 1}, {0, most}, {most, least},
			{least, 0}, {least + 1, -1}, {-1, least + 1}, {0, least}, {least, most},
		} {
			a, b := with(mixed(), i, x[0]), with(mixed(), i, x[1])
			sum, ok := Add(a, b)
			if !ok {
				t.Errorf("%s: %d + %d does not fit", name, x[0], x[1])
			}
			back, ok := Sub(sum, b)
			wantTotal(t, name, back, ok, a, true)
		}
	}
}

// P7.1: sums of nothing, of one total, and of several.
func TestSum(t *testing.T) {
	for _, c := range []struct {
		what string
		l    []api.Total
		want api.Total
	}{
		{"nil", nil, api.Total{}},
		{"nothing", []api.Total{}, api.Total{}},
		{"a zero total", []api.Total{{}}, api.Total{}},
		{"one", []api.Total{mixed()}, mixed()},
		{"one at the end", []api.Total{Glue(most, least, 2, most)}, Glue(most, least, 2, most)},
		{"two", []api.Total{Box(10), Glue(5, 2, 1, 3)}, Glue(15, 2, 1, 3)},
		{
			"several",
			[]api.Total{Box(10), Glue(5, 2, 1, 3), Glue(1, 7, 0, 0), mixed(), Glue(-40, -1, 3, -8), Glue(0, 6, 2, 1)},
			api.Total{Nat: -8, Str: [4]api.Sp{14, 0, 6, 10}, Shr: -1},
		},
		{"up to the end", []api.Total{Box(most - 1), Box(1), {}}, Box(most)},
		{"down to the end", []api.Total{Box(least + 1), Box(-1), {}}, Box(least)},
		{"to one end and back", []api.Total{Box(most), Box(-1), Box(1)}, Box(most)},
		{"from end to end", []api.Total{Box(most), Box(least), Box(least + 1)}, Box(least)},
	} {
		kept := slices.Clone(c.l)
		got, ok := Sum(c.l...)
		wantTotal(t, c.what, got, ok, c.want, true)
		if !slices.Equal(c.l, kept) {
			t.Errorf("%s: the list was modified: %v", c.what, c.l)
		}
	}
	got, ok := Sum()
	wantTotal(t, "no argument", got, ok, api.Total{}, true)
}

// P7.1: a partial sum that overflows counts, also where the sum of all would
// fit; what comes after it cannot mend it, and another order may avoid it.
func TestSumFromLeftToRight(t *testing.T) {
	for i, name := range fieldNames() {
		for _, c := range []struct {
			l    []api.Sp
			want api.Sp
			ok   bool
		}{
			{[]api.Sp{most, 1, -1}, 0, false},
			{[]api.Sp{most, 1, -5, 2}, 0, false},
			{[]api.Sp{1, most, least}, 0, false},
			{[]api.Sp{least, -1, 1}, 0, false},
			{[]api.Sp{5, -6, least, 1, 9}, 0, false},
			{[]api.Sp{most, most, least, least}, 0, false},
			{[]api.Sp{3, 4, most}, 0, false},
			{[]api.Sp{most, -1, 1}, most, true},
			{[]api.Sp{-1, 1, most}, most, true},
			{[]api.Sp{least, 1, -1}, least, true},
			{[]api.Sp{most, least, most, least}, -2, true},
		} {
			l := make([]api.Total, len(c.l))
			for k, x := range c.l {
				l[k] = with(mixed(), i, x)
			}
			var want api.Total
			if c.ok {
				for k, p := range pointers(&want) {
					m := mixed()
					*p = *pointers(&m)[k] * api.Sp(len(l))
				}
				want = with(want, i, c.want)
			}
			got, ok := Sum(l...)
			wantTotal(t, name, got, ok, want, c.ok)
		}
	}
}

// P7.1: the sum of three agrees with two exact additions from left to right.
func TestSumIsExact(t *testing.T) {
	for _, a := range rotated() {
		for _, b := range rotated() {
			for _, c := range []api.Total{mixed(), Box(most), Glue(1, least, 2, -1), a} {
				want, wantOK := exactly(a, b, (*big.Int).Add)
				if wantOK {
					want, wantOK = exactly(want, c, (*big.Int).Add)
				}
				got, ok := Sum(a, b, c)
				wantTotal(t, "Sum", got, ok, want, wantOK)
			}
		}
	}
}

// P7.1: the order is the highest one with a stretch other than 0.
func TestOrder(t *testing.T) {
	for _, c := range []struct {
		t    api.Total
		want int
	}{
		{api.Total{}, 0},
		{Box(3), 0},
		{Box(least), 0},
		{api.Total{Nat: most, Shr: most}, 0},
		{Glue(0, 1, 0, 0), 0},
		{Glue(0, 1, 1, 0), 1},
		{Glue(0, 1, 2, 0), 2},
		{Glue(0, 1, 3, 0), 3},
		{Glue(0, -1, 0, 0), 0},
		{Glue(0, -1, 1, 0), 1},
		{Glue(0, -1, 2, 0), 2},
		{Glue(0, -1, 3, 0), 3},
		{Glue(0, least, 3, 0), 3},
		{Glue(0, 0, 3, 0), 0},
		{Glue(7, 9, 4, 7), 0},
		{api.Total{Str: [4]api.Sp{5, 1, 0, 0}}, 1},
		{api.Total{Str: [4]api.Sp{5, 0, -1, 0}}, 2},
		{api.Total{Str: [4]api.Sp{5, 6, 7, 8}}, 3},
		{api.Total{Str: [4]api.Sp{most, most, most, -1}}, 3},
		{api.Total{Str: [4]api.Sp{-5, -6, 0, 0}}, 1},
		{api.Total{Str: [4]api.Sp{1, 0, 0, 1}}, 3},
	} {
		if got := Order(c.t); got != c.want {
			t.Errorf("Order(%v): %d, not %d", c.t, got, c.want)
		}
	}
}

// P7.1: stretches of opposite sign leave an order that no longer counts.
func TestOrderOfSum(t *testing.T) {
	sum, ok := Sum(Glue(1, 4, 0, 0), Glue(1, 6, 2, 0), Glue(1, -6, 2, 0))
	if ord := Order(sum); ord != 0 || !ok {
		t.Errorf("Order of %v: %d", sum, ord)
	}
}

// P7.1: Least is the natural height without the shrink, whatever the stretch.
func TestLeast(t *testing.T) {
	for _, c := range []struct {
		nat, shr, want api.Sp
		ok             bool
	}{
		{15, 3, 12, true},
		{0, 0, 0, true},
		{3, 15, -12, true},
		{3, -15, 18, true},
		{-3, 15, -18, true},
		{most, 0, most, true},
		{most - 1, -1, most, true},
		{most, -1, 0, false},
		{0, least, 0, false},
		{-1, least, most, true},
		{most, least, 0, false},
		{least, 0, least, true},
		{least + 1, 1, least, true},
		{least, 1, 0, false},
		{-1, most, least, true},
		{-2, most, 0, false},
		{least, most, 0, false},
		{least, least, 0, true},
		{most, most, 0, true},
	} {
		for _, str := range [][4]api.Sp{{}, {1, -2, 3, -4}, {most, least, most, least}} {
			got, ok := Least(api.Total{Nat: c.nat, Str: str, Shr: c.shr})
			if got != c.want || ok != c.ok {
				t.Errorf("Least of %d and %d beside %v: %d %v, not %d %v", c.nat, c.shr, str, got, ok, c.want, c.ok)
			}
		}
	}
}

// orders calls visit with every order of l.
func orders(l []api.Total, visit func([]api.Total)) {
	var swap func(k int)
	swap = func(k int) {
		if k == len(l) {
			visit(l)
			return
		}
		for i := k; i < len(l); i++ {
			l[k], l[i] = l[i], l[k]
			swap(k + 1)
			l[k], l[i] = l[i], l[k]
		}
	}
	swap(0)
}

// P7.2: the sum of totals with fields between 0 and 2^50 does not depend on the
// order.
func TestSumInEveryOrder(t *testing.T) {
	l := []api.Total{
		{},
		Box(high),
		Glue(10, high, 3, 2),
		{Nat: high, Str: [4]api.Sp{high, high, high, high}, Shr: high},
		{Nat: 1, Str: [4]api.Sp{2, 3, 4, 5}, Shr: 6},
		{Nat: high - 1, Str: [4]api.Sp{0, 1, high - 1, 0}, Shr: high - 2},
	}
	want := api.Total{
		Nat: 3*high + 10,
		Str: [4]api.Sp{high + 2, high + 4, 2*high + 3, 2*high + 5},
		Shr: 2*high + 6,
	}
	count := 0
	orders(l, func(l []api.Total) {
		count++
		got, ok := Sum(l...)
		wantTotal(t, "Sum", got, ok, want, true)
	})
	if count != 720 {
		t.Errorf("%d orders", count)
	}
}

// P7.2: 2^13 fields of 2^50 are one too many, in every order; with one less in
// one of them the sum is the greatest length, wherever that one stands.
func TestSumOfManyInAnyOrder(t *testing.T) {
	const count = 1 << 13
	for i, name := range fieldNames() {
		for _, at := range []int{0, 1, count / 2, count - 2, count - 1} {
			l := slices.Repeat([]api.Total{with(api.Total{}, i, high)}, count)
			got, ok := Sum(l...)
			wantTotal(t, name+" too great", got, ok, api.Total{}, false)
			l[at] = with(api.Total{}, i, high-1)
			got, ok = Sum(l...)
			wantTotal(t, name+" at the end", got, ok, with(api.Total{}, i, most), true)
		}
	}
}
