package item

import (
	"math"
	"slices"
	"testing"

	"tympan/api"
)

const (
	least = api.Sp(math.MinInt64)
	most  = api.Sp(math.MaxInt64)
	// dim is 2^30 - 1, as the document's table of limits has it.
	dim = api.Sp(1073741823)
)

// The names of the fields besides K.
var names = []string{"H", "F", "Str", "Ord", "Shr", "N"}

// with returns x with the field of that name set to v.
func with(x api.Item, name string, v int64) api.Item {
	switch name {
	case "H":
		x.H = api.Sp(v)
	case "F":
		x.F = int(v)
	case "Str":
		x.Str = api.Sp(v)
	case "Ord":
		x.Ord = int(v)
	case "Shr":
		x.Shr = api.Sp(v)
	case "N":
		x.N = int(v)
	}
	return x
}

// owned are the fields of each kind, by the chapter's definition.
func owned(k int) []string {
	switch k {
	case 1:
		return []string{"H", "F"}
	case 2:
		return []string{"H", "Str", "Ord", "Shr"}
	case 3, 4, 5, 6:
		return []string{"N"}
	}
	return nil
}

// sound is a valid item of each kind, in which no field of the kind is 0.
func sound() []api.Item {
	return []api.Item{
		{K: 1, H: 10, F: 2},
		{K: 2, H: 9, Str: 7, Ord: 2, Shr: 5},
		{K: 3, N: 50},
		{K: 4, N: 8},
		{K: 5, N: 6},
		{K: 6, N: 4},
		{K: 7},
	}
}

// kinds are all that exist, and others.
func kinds() []int {
	return []int{math.MinInt, -10000, -8, -7, -2, -1, 0, 1, 2, 3, 4, 5, 6, 7, 8, 9, 16, 255, 256, 257, 10000, math.MaxInt}
}

// lengths and numbers are of every size, most of them in no valid item.
func lengths() []api.Sp {
	return []api.Sp{least, least + 1, -dim - 1, -dim, -2, -1, 0, 1, 2, 3, 77, dim - 1, dim, dim + 1, 1 << 32, 1 << 50, most - 1, most}
}

func numbers() []int {
	return []int{math.MinInt, math.MinInt + 1, -1 << 32, -10001, -10000, -9999, -4, -1, 0, 1, 2, 3, 4, 5, 255, 256, 257, 511, 512, 513,
		9999, 10000, 10001, 1<<20 - 1, 1 << 20, 1<<20 + 1, 1 << 32, math.MaxInt - 1, math.MaxInt}
}

// verdict is the text of Check in P10.1, clause by clause.
func verdict(x api.Item) api.Errno {
	in := func(a, low, high int64) bool { return low <= a && a <= high }
	long := func(a api.Sp) bool { return in(int64(a), 0, int64(dim)) }
	n := int64(x.N)
	plain := x
	plain.K = 0
	ok := false
	switch x.K {
	case 1:
		plain.H, plain.F = 0, 0
		ok = long(x.H) && in(int64(x.F), 0, 3)
	case 2:
		plain.H, plain.Str, plain.Ord, plain.Shr = 0, 0, 0, 0
		ok = long(x.H) && long(x.Str) && long(x.Shr) && in(int64(x.Ord), 0, 3) && !(x.Shr > x.H)
	case 3:
		plain.N = 0
		ok = n == -10000 || in(n, 0, 10000)
	case 4:
		plain.N = 0
		ok = in(n, 0, 1<<20)
	case 5:
		plain.N = 0
		ok = in(n, 0, 511)
	case 6:
		plain.N = 0
		ok = in(n, 0, 255)
	case 7:
		ok = true
	}
	if ok && plain == (api.Item{}) {
		return 0
	}
	return 8
}

// expect holds Check against a verdict.
func expect(t *testing.T, x api.Item, want api.Errno) {
	t.Helper()
	if got := Check(x); got != want {
		t.Errorf("Check(%+v) = %d, want %d", x, got, want)
	}
}

// P10.1, P10.2: the chapter's examples.
func TestExamples(t *testing.T) {
	expect(t, Box(10, 1), api.OK)
	expect(t, api.Item{K: api.KBox, H: 10, F: 1, N: 1}, api.ErrItem)
	expect(t, api.Item{K: api.KBox, N: 1}, api.ErrItem)
}

// P10.1: each constructor sets the kind and the fields that it names, and
// nothing else, whether or not the item is valid.
func TestConstructors(t *testing.T) {
	same := func(got, want api.Item) {
		t.Helper()
		if got != want {
			t.Errorf("got %+v, want %+v", got, want)
		}
	}
	for _, n := range numbers() {
		same(Pen(n), api.Item{K: 3, N: n})
		same(Mark(n), api.Item{K: 4, N: n})
		same(Note(n), api.Item{K: 5, N: n})
		same(Float(n), api.Item{K: 6, N: n})
		for _, h := range lengths() {
			same(Box(h, n), api.Item{K: 1, H: h, F: n})
			same(Glue(h, 3, n, 2), api.Item{K: 2, H: h, Str: 3, Ord: n, Shr: 2})
		}
	}
	for _, h := range lengths() {
		for _, str := range lengths() {
			for _, shr := range lengths() {
				same(Glue(h, str, 1, shr), api.Item{K: 2, H: h, Str: str, Ord: 1, Shr: shr})
			}
		}
	}
	same(Barrier(), api.Item{K: 7})
}

// P10.1: the names of the kinds stand for the numbers of the definition.
func TestKinds(t *testing.T) {
	for i, x := range []api.Item{Box(10, 2), Glue(9, 7, 2, 5), Pen(50), Mark(8), Note(6), Float(4), Barrier()} {
		if x != sound()[i] {
			t.Errorf("got %+v, want %+v", x, sound()[i])
		}
		expect(t, x, api.OK)
	}
}

// P10.1: a kind that is none of these is not valid, whatever the fields are.
func TestCheckKind(t *testing.T) {
	for _, k := range kinds() {
		if k >= 1 && k <= 7 {
			continue
		}
		expect(t, api.Item{K: k}, api.ErrItem)
		for _, x := range sound() {
			x.K = k
			expect(t, x, api.ErrItem)
		}
	}
}

// P10.1: a field that the kind does not have must be 0, also where the value
// would be admissible in another kind.
func TestCheckOtherFields(t *testing.T) {
	for _, x := range sound() {
		for _, bare := range []api.Item{x, {K: x.K}} {
			expect(t, bare, api.OK)
			for _, name := range names {
				if slices.Contains(owned(x.K), name) {
					continue
				}
				for _, v := range []int64{1, -1, 2, 3, 255, -10000, math.MinInt64, math.MaxInt64} {
					expect(t, with(bare, name, v), api.ErrItem)
				}
			}
		}
	}
}

// P10.1: lengths are between 0 and MaxDim.
func TestCheckLengths(t *testing.T) {
	for _, h := range lengths() {
		want := api.ErrItem
		if h >= 0 && h <= dim {
			want = api.OK
		}
		expect(t, Box(h, 0), want)
		expect(t, Box(h, 3), want)
		expect(t, Glue(h, 0, 0, 0), want)
		expect(t, Glue(h, dim, 3, 0), want)
		expect(t, Glue(0, h, 0, 0), want)
		expect(t, Glue(4, h, 3, 4), want)
		expect(t, Glue(dim, 0, 0, h), want)
		expect(t, Glue(dim, dim, 3, h), want)
	}
}

// P10.1: a shrink is at most the height, and a height that is no length does
// not admit a shrink that is none.
func TestCheckShrink(t *testing.T) {
	for _, h := range []api.Sp{0, 1, 2, 77, dim - 1, dim} {
		expect(t, Glue(h, 0, 0, h), api.OK)
		expect(t, Glue(h, 5, 1, h), api.OK)
		expect(t, Glue(h, 0, 0, h+1), api.ErrItem)
		expect(t, Glue(h, h+1, 0, h+1), api.ErrItem)
	}
	expect(t, Glue(5, 0, 0, 4), api.OK)
	expect(t, Glue(dim+1, 0, 0, dim+1), api.ErrItem)
	expect(t, Glue(most, 0, 0, most), api.ErrItem)
	expect(t, Glue(-1, 0, 0, -1), api.ErrItem)
	expect(t, Glue(least, 0, 0, least), api.ErrItem)
}

// P10.1: the flags of a box and the order of a glue are between 0 and 3.
func TestCheckSmallNumbers(t *testing.T) {
	for _, n := range numbers() {
		want := api.ErrItem
		if n >= 0 && n <= 3 {
			want = api.OK
		}
		expect(t, Box(0, n), want)
		expect(t, Box(dim, n), want)
		expect(t, Glue(0, 0, n, 0), want)
		expect(t, Glue(4, 2, n, 4), want)
	}
}

// P10.1: the range of N for each kind that has it.
func TestCheckN(t *testing.T) {
	for _, c := range []struct {
		make      func(int) api.Item
		good, bad []int
	}{
		{Pen, []int{-10000, 0, 1, 9999, 10000}, []int{-20000, -10001, -9999, -2, -1, 10001, 10002, 1 << 20}},
		{Mark, []int{0, 1, 10001, 1<<20 - 1, 1 << 20}, []int{-10000, -2, -1, 1<<20 + 1, 1 << 21}},
		{Note, []int{0, 1, 256, 510, 511}, []int{-10000, -2, -1, 512, 513, 10000}},
		{Float, []int{0, 1, 254, 255}, []int{-10000, -2, -1, 256, 257, 511}},
	} {
		for _, n := range c.good {
			expect(t, c.make(n), api.OK)
		}
		for _, n := range append(c.bad, math.MinInt, math.MaxInt) {
			expect(t, c.make(n), api.ErrItem)
		}
	}
}

// P10.1: for every pair of fields of every kind, with numbers of every size,
// Check returns what the text says.
func TestCheckByText(t *testing.T) {
	valid := 0
	for _, k := range kinds() {
		base := []api.Item{{K: k}}
		for _, x := range sound() {
			if x.K == k {
				base = append(base, x)
			}
		}
		for _, x := range base {
			for i, one := range names {
				for _, two := range names[:i] {
					for _, a := range numbers() {
						for _, b := range lengths() {
							y := with(with(x, one, int64(a)), two, int64(b))
							expect(t, y, verdict(y))
							if verdict(y) == api.OK {
								valid++
							}
						}
					}
				}
			}
		}
	}
	if valid == 0 {
		t.Error("no item was valid")
	}
}

// P10.2: glues and penalties are loose, valid or not, and nothing else is.
func TestLoose(t *testing.T) {
	for _, k := range kinds() {
		for _, x := range []api.Item{{K: k}, {K: k, H: -1, F: 9, Str: 3, Ord: 7, Shr: 5, N: 10000}, {K: k, N: -10000}} {
			if got, want := Loose(x), k == 2 || k == 3; got != want {
				t.Errorf("Loose(%+v) = %v", x, got)
			}
		}
	}
}

// P10.2: only penalties force or forbid, from -10000 down and from 10000 up.
func TestForcesForbids(t *testing.T) {
	all := append(numbers(), -20000, -9998, -10002, 9998, 10002, 20000)
	for _, k := range kinds() {
		for _, n := range all {
			x := api.Item{K: k, H: 1, F: 1, N: n}
			if got, want := Forces(x), k == 3 && n <= -10000; got != want {
				t.Errorf("Forces(%+v) = %v", x, got)
			}
			if got, want := Forbids(x), k == 3 && n >= 10000; got != want {
				t.Errorf("Forbids(%+v) = %v", x, got)
			}
		}
		// Other fields than N do not count.
		x := api.Item{K: k, H: -10000, F: 10000, Str: 10000, Ord: -10000, Shr: 10000}
		if Forces(x) || Forbids(x) {
			t.Errorf("%+v forces or forbids", x)
		}
	}
}

// P10.2: the total of a box is its height, whatever other fields hold.
func TestTotalBox(t *testing.T) {
	for _, h := range lengths() {
		want := api.Total{Nat: h}
		if got := Total(Box(h, 3)); got != want {
			t.Errorf("Total of a box of %d: %+v", h, got)
		}
		x := api.Item{K: api.KBox, H: h, F: 8, Str: 4, Ord: 1, Shr: 3, N: 2}
		if got := Total(x); got != want {
			t.Errorf("Total(%+v) = %+v", x, got)
		}
	}
}

// P10.2: the total of a glue has its stretch at its order, and no stretch if
// there is no such order.
func TestTotalGlue(t *testing.T) {
	for _, h := range lengths() {
		for _, str := range lengths() {
			for _, ord := range numbers() {
				want := api.Total{Nat: h, Shr: str - 1}
				switch ord {
				case 0:
					want.Str = [4]api.Sp{str, 0, 0, 0}
				case 1:
					want.Str = [4]api.Sp{0, str, 0, 0}
				case 2:
					want.Str = [4]api.Sp{0, 0, str, 0}
				case 3:
					want.Str = [4]api.Sp{0, 0, 0, str}
				}
				x := Glue(h, str, ord, str-1)
				if got := Total(x); got != want {
					t.Errorf("Total(%+v) = %+v, want %+v", x, got, want)
				}
			}
		}
	}
	x := api.Item{K: api.KGlue, H: 5, F: 1, Str: 2, Ord: 1, Shr: 3, N: 9}
	if got := Total(x); got != (api.Total{Nat: 5, Str: [4]api.Sp{0, 2}, Shr: 3}) {
		t.Errorf("Total(%+v) = %+v", x, got)
	}
}

// P10.2: items of every other kind have a zero total.
func TestTotalOthers(t *testing.T) {
	for _, k := range kinds() {
		if k == api.KBox || k == api.KGlue {
			continue
		}
		for _, x := range []api.Item{{K: k}, {K: k, N: 7}, {K: k, H: 10, F: 1, Str: 2, Ord: 3, Shr: 4, N: 5}} {
			if got := Total(x); got != (api.Total{}) {
				t.Errorf("Total(%+v) = %+v", x, got)
			}
		}
	}
}

// P10.2: Count for lists without an item of the kind, with one, with several,
// and with items of that kind alone; kinds that do not exist are counted too.
func TestCount(t *testing.T) {
	var mixed []api.Item
	for round, k := range kinds() {
		for i := range round % 4 {
			mixed = append(mixed, api.Item{K: k, N: i, H: api.Sp(k)})
		}
	}
	slices.Reverse(mixed)
	lists := [][]api.Item{nil, {}, sound(), mixed, append(sound(), mixed...),
		{Box(1, 0)}, {Pen(1), Pen(1), Pen(-10000)}, {{}, {}}, {Box(1, 0), Pen(1), Box(2, 0)}}
	for _, l := range lists {
		before := slices.Clone(l)
		for _, k := range append(kinds(), 10, -3) {
			want := 0
			for _, x := range l {
				if x.K == k {
					want++
				}
			}
			if got := Count(l, k); got != want {
				t.Errorf("Count(%v, %d) = %d, want %d", l, k, got, want)
			}
		}
		if !slices.Equal(l, before) {
			t.Errorf("Count changed %v to %v", before, l)
		}
	}
	if got := Count([]api.Item{Box(1, 0), Pen(1), Box(2, 0)}, api.KBox); got != 2 {
		t.Errorf("two boxes count as %d", got)
	}
	if Count(nil, api.KBox) != 0 || Count([]api.Item{}, 0) != 0 {
		t.Error("an empty list has items")
	}
}

// P10.2: a list that is longer than any job's is counted to its end.
func TestCountLong(t *testing.T) {
	l := make([]api.Item, 3*api.MaxItems+1)
	for i := range l {
		l[i] = api.Item{K: i%7 + 1}
	}
	sum := 0
	for k := 1; k <= 7; k++ {
		sum += Count(l, k)
	}
	if sum != len(l) || Count(l, 0) != 0 || Count(l, 1) != (len(l)+6)/7 {
		t.Errorf("%d of %d items were counted", sum, len(l))
	}
}
