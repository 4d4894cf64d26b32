package figure

import (
	"math"
	"math/big"
	"slices"
	"testing"

	"tympan/api"
)

const (
	least = api.Sp(math.MinInt64)
	most  = api.Sp(math.MaxInt64)
	// dim is 2^30 - 1, as the document's table of limits has it.
	dim = api.Sp(1073741823)
	// top is 2^50, beyond which no height is told.
	top = api.Sp(1125899906842624)
)

// extremes are numbers of the type int far from all ranges of the chapter, some
// of them inside the ranges if only their low bits are regarded.
func extremes() []int {
	return []int{
		math.MinInt, math.MinInt + 1, math.MinInt + 2, math.MinInt + 3, math.MinInt32, -1 << 32, -256,
		256, 257, 1 << 32, 1<<32 + 1, 1<<32 + 2, math.MaxInt32, math.MaxInt - 2, math.MaxInt - 1, math.MaxInt,
	}
}

// near are the numbers around 0, and the extremes.
func near() []int {
	l := extremes()
	for i := -9; i <= 9; i++ {
		l = append(l, i)
	}
	return l
}

// tall returns floats of these heights.
func tall(heights ...api.Sp) []api.Float {
	l := make([]api.Float, len(heights))
	for i, h := range heights {
		l[i] = api.Float{C: i % 3, H: h, Where: i % 4}
	}
	return l
}

// of returns floats of these classes, each of its own height.
func of(classes ...int) []api.Float {
	l := make([]api.Float, len(classes))
	for i, c := range classes {
		l[i] = api.Float{C: c, H: api.Sp(i + 1), Where: i % 4}
	}
	return l
}

// lists are of every kind, valid or not.
func lists() [][]api.Float {
	long := make([]api.Float, 300)
	for i := range long {
		long[i] = api.Float{C: i*i%5 - 1, H: api.Sp(i), Where: i % 5}
	}
	return [][]api.Float{
		nil, {}, of(0), of(1), of(2), of(3), of(-1), {{}},
		of(0, 0, 0, 0), of(1, 1, 1), of(2, 2), of(0, 1, 2), of(2, 1, 0, 0, 1, 2, 2),
		of(-1, 0, 3, 1, -2, 2, 4, 0, -1, 3), of(near()...), of(math.MinInt, math.MaxInt, math.MinInt),
		tall(3, 4, 5), tall(least, -1, 0, 1, dim, dim+1, top-1, top, top+1, most), long,
	}
}

// expect holds Check against a verdict.
func expect(t *testing.T, f api.Float, right bool) {
	t.Helper()
	want := api.ErrFloat
	if right {
		want = api.OK
	}
	if got := Check(f); got != want {
		t.Errorf("Check(%v) = %d, want %d", f, got, want)
	}
}

// sum is the text of High in exact numbers.
func sum(l []api.Float, ids []int, sep api.Sp) api.Sp {
	all := new(big.Int)
	for _, id := range ids {
		for i, f := range l {
			if i == id {
				all.Add(all, big.NewInt(max(int64(f.H), 0)))
				all.Add(all, big.NewInt(max(int64(sep), 0)))
			}
		}
	}
	if all.Cmp(big.NewInt(int64(top))) > 0 {
		return top
	}
	return api.Sp(all.Int64())
}

// P12.2: the chapter's example.
func TestExample(t *testing.T) {
	if got := High([]api.Float{{H: 3}, {H: 4}}, []int{0, 1}, 1); got != 9 {
		t.Errorf("High = %d, want 9", got)
	}
}

// P12.1: the class is between 0 and 2.
func TestCheckClass(t *testing.T) {
	for _, c := range near() {
		for where := range 4 {
			for _, h := range []api.Sp{1, 50, dim} {
				expect(t, api.Float{C: c, H: h, Where: where}, c >= 0 && c <= 2)
			}
		}
	}
}

// P12.1: the height is between 1 and MaxDim.
func TestCheckHeight(t *testing.T) {
	for _, h := range []api.Sp{
		least, least + 1, -1 << 32, -dim - 1, -dim, -2, -1, 0, 1, 2, 77, dim - 1, dim,
		dim + 1, dim + 2, 1 << 31, 1 << 32, 1<<32 + 1, top, most - 1, most,
	} {
		for c := range 3 {
			for where := range 4 {
				expect(t, api.Float{C: c, H: h, Where: where}, h >= 1 && h <= dim)
			}
		}
	}
}

// P12.1: Where is between 0 and 3.
func TestCheckWhere(t *testing.T) {
	for _, where := range near() {
		for c := range 3 {
			for _, h := range []api.Sp{1, 50, dim} {
				expect(t, api.Float{C: c, H: h, Where: where}, where >= 0 && where <= 3)
			}
		}
	}
}

// P12.1: several faults are one error, and zero is no float.
func TestCheckSeveralFaults(t *testing.T) {
	expect(t, api.Float{}, false)
	expect(t, api.Float{C: 3, H: 0, Where: 4}, false)
	expect(t, api.Float{C: -1, H: dim + 1, Where: 1}, false)
	expect(t, api.Float{C: math.MinInt, H: least, Where: math.MinInt}, false)
	expect(t, api.Float{C: math.MaxInt, H: most, Where: math.MaxInt}, false)
}

// P12.1: where each Where from 0 to 3 lets a float stand.
func TestTopBottom(t *testing.T) {
	for where, want := range []struct{ top, bottom bool }{{false, false}, {true, false}, {false, true}, {true, true}} {
		f := api.Float{H: 5, Where: where}
		if Top(f) != want.top || Bottom(f) != want.bottom {
			t.Errorf("Where %d: %v and %v, want %v", where, Top(f), Bottom(f), want)
		}
	}
}

// P12.1: bit 1 and bit 2 alone decide, also in numbers that are not valid, and
// whatever the class and the height are.
func TestTopBottomBits(t *testing.T) {
	for _, where := range append(near(), 1<<40+1, 1<<40+2, 1<<62+3, -1<<40+1, -1<<40+2, -1<<40) {
		// A remainder that was made positive does not depend on how negative
		// numbers are represented.
		low := (where%4 + 4) % 4
		for _, f := range []api.Float{
			{Where: where}, {C: 2, H: dim, Where: where}, {C: -1, H: least, Where: where}, {C: math.MaxInt, H: most, Where: where},
		} {
			if got, want := Top(f), low == 1 || low == 3; got != want {
				t.Errorf("Top(%v) = %v", f, got)
			}
			if got, want := Bottom(f), low == 2 || low == 3; got != want {
				t.Errorf("Bottom(%v) = %v", f, got)
			}
		}
	}
}

// P12.2: the float of each index, as it is, and none for other indices.
func TestAt(t *testing.T) {
	for _, l := range lists() {
		for i, want := range l {
			if got, ok := At(l, i); got != want || !ok {
				t.Errorf("At(%d) = %v, %v, want %v", i, got, ok, want)
			}
		}
		beyond := []int{math.MinInt, math.MinInt32, -len(l) - 1, -2, -1}
		beyond = append(beyond, len(l), len(l)+1, len(l)+7, math.MaxInt32, 1<<32+len(l), math.MaxInt)
		for _, n := range beyond {
			if got, ok := At(l, n); got != (api.Float{}) || ok {
				t.Errorf("At(%d) of %d floats = %v, %v", n, len(l), got, ok)
			}
		}
	}
}

// P12.2: what lies behind the end of a list is none of its floats.
func TestAtBehindTheEnd(t *testing.T) {
	l := tall(3, 4, 5)[:2]
	if f, ok := At(l, 2); ok || f != (api.Float{}) {
		t.Errorf("At(2) = %v, %v", f, ok)
	}
	if got := High(l, []int{1, 2}, 1); got != 5 {
		t.Errorf("High = %d, want 5", got)
	}
}

// P12.2: heights of no floats, of one and of several, in any order; each index
// counts as often as it is named.
func TestHighIndices(t *testing.T) {
	l := tall(1, 20, 300, 4000)
	for _, c := range []struct {
		ids  []int
		sep  api.Sp
		want api.Sp
	}{
		{nil, 5, 0}, {[]int{}, 5, 0}, {nil, 0, 0}, {nil, most, 0},
		{[]int{0}, 0, 1}, {[]int{0}, 5, 6}, {[]int{3}, 5, 4005}, {[]int{2}, -5, 300},
		{[]int{0, 1, 2, 3}, 0, 4321}, {[]int{0, 1, 2, 3}, 10000, 44321}, {[]int{3, 0, 2}, 7, 4322}, {[]int{1, 2}, 1, 322},
		{[]int{1, 1}, 0, 40}, {[]int{1, 1}, 3, 46}, {[]int{2, 0, 2, 0, 2}, 1, 907},
		{[]int{-1}, 5, 0}, {[]int{4}, 5, 0}, {[]int{-1, 4, 5, math.MinInt, math.MaxInt}, 5, 0},
		{[]int{-1, 1, 4, 2, math.MaxInt, math.MinInt}, 5, 330}, {[]int{1 << 32, -1 << 32, 0}, 5, 6},
	} {
		if got := High(l, c.ids, c.sep); got != c.want {
			t.Errorf("High(%v, %d) = %d, want %d", c.ids, c.sep, got, c.want)
		}
	}
}

// P12.2: a list without floats has no height.
func TestHighWithoutFloats(t *testing.T) {
	for _, l := range [][]api.Float{nil, {}} {
		for _, ids := range [][]int{nil, {}, {0}, {-1, 0, 1}} {
			for _, sep := range []api.Sp{least, -1, 0, 1, most} {
				if got := High(l, ids, sep); got != 0 {
					t.Errorf("High(%v, %d) = %d", ids, sep, got)
				}
			}
		}
	}
}

// P12.2: each negative height and a negative sep counts as 0 by itself.
func TestHighNegative(t *testing.T) {
	for _, c := range []struct {
		l    []api.Float
		sep  api.Sp
		want api.Sp
	}{
		{tall(-1), 0, 0}, {tall(-1), 7, 7}, {tall(least), 7, 7}, {tall(-9), 7, 7}, {tall(0), 7, 7},
		{tall(5, -4), 0, 5}, {tall(-4, 5), 0, 5}, {tall(-4, 5), 2, 9}, {tall(5, -4, 6), 1, 14},
		{tall(5), -4, 5}, {tall(5), -9, 5}, {tall(5, 6), -1, 11}, {tall(5, 6), least, 11}, {tall(5, 6), 0, 11},
		{tall(-1, -2), -3, 0}, {tall(least, least), least, 0}, {tall(least, most), least, top}, {tall(most, least), -1, top},
	} {
		if got := High(c.l, []int{0, 1, 2}, c.sep); got != c.want {
			t.Errorf("High(%v, %d) = %d, want %d", c.l, c.sep, got, c.want)
		}
	}
}

// P12.2: sums at, just below and beyond 2^50, also where they wrap round.
func TestHighBound(t *testing.T) {
	for _, c := range []struct {
		l    []api.Float
		sep  api.Sp
		want api.Sp
	}{
		{tall(top - 1), 0, top - 1}, {tall(top), 0, top}, {tall(top + 1), 0, top}, {tall(most), 0, top},
		{tall(top - 2), 1, top - 1}, {tall(top - 1), 1, top}, {tall(top), 1, top}, {tall(top - 1), 2, top},
		{tall(0), top - 1, top - 1}, {tall(0), top, top}, {tall(0), top + 1, top}, {tall(0), most, top},
		{tall(1), top - 2, top - 1}, {tall(1), top - 1, top}, {tall(2), top - 1, top}, {tall(1), most, top},
		{tall(top-2, 1), 0, top - 1}, {tall(1, top-2), 0, top - 1}, {tall(top-1, 1), 0, top}, {tall(1, top), 0, top},
		{tall(top-4, 1), 1, top - 1}, {tall(top-3, 1), 1, top}, {tall(1, top-3), 1, top}, {tall(top-2, 1), 1, top},
		{tall(1, 1), top/2 - 1, top}, {tall(0, 1), top/2 - 1, top - 1}, {tall(1, 1), top / 2, top},
		{tall(most), most, top}, {tall(most), 1, top}, {tall(most, most), most, top}, {tall(most, most, most), 2, top},
		{tall(1<<62, 1<<62), 0, top}, {tall(1<<62, 1<<62), 1 << 62, top}, {tall(top, -1), -1, top}, {tall(top+5, -6), -6, top},
	} {
		if got := High(c.l, []int{0, 1, 2}, c.sep); got != c.want {
			t.Errorf("High(%v, %d) = %d, want %d", c.l, c.sep, got, c.want)
		}
	}
}

// P12.2: High returns what the text says, for many floats and indices.
func TestHighByText(t *testing.T) {
	seps := []api.Sp{least, -dim, -1, 0, 1, 7, 1 << 29, dim, top / 2, top - 1, top, top + 1, most}
	for _, l := range lists() {
		n := len(l)
		choices := [][]int{nil, {}, {0}, {n - 1}, {n}, {-1, n, 0}, {0, 0, n - 1, n - 1}, near()}
		for step := 1; step <= 3; step++ {
			var ids []int
			for i := -2; i < n+2; i += step {
				ids = append(ids, i)
			}
			choices = append(choices, ids)
		}
		for _, ids := range choices {
			for _, sep := range seps {
				if got, want := High(l, ids, sep), sum(l, ids, sep); got != want {
					t.Errorf("High(%v, %v, %d) = %d, want %d", l, ids, sep, got, want)
				}
			}
		}
	}
}

// P12.2: as many of the greatest floats as a job may have are told exactly.
func TestHighGreatest(t *testing.T) {
	l := slices.Repeat([]api.Float{{H: dim}}, 256)
	ids := make([]int, len(l))
	for i := range ids {
		ids[i] = i
	}
	if got, want := High(l, ids, 1<<29), 256*(dim+1<<29); got != want {
		t.Errorf("High = %d, want %d", got, want)
	}
}

// P12.2: the indices of the floats of each class.
func TestOf(t *testing.T) {
	l := of(0, 2, 0, 1, -1, 3, 2, 0, 7, 1, math.MinInt, -1)
	for _, c := range []struct {
		class int
		want  []int
	}{
		{0, []int{0, 2, 7}}, {1, []int{3, 9}}, {2, []int{1, 6}},
		// The text gives no range for c: floats of such a class are its floats.
		{-1, []int{4, 11}}, {3, []int{5}}, {7, []int{8}}, {math.MinInt, []int{10}},
		{-2, nil}, {4, nil}, {256, nil}, {1 << 32, nil}, {1<<32 + 1, nil}, {math.MaxInt, nil},
	} {
		if got := Of(l, c.class); !slices.Equal(got, c.want) {
			t.Errorf("Of(%d) = %v, want %v", c.class, got, c.want)
		}
	}
	for _, c := range near() {
		if len(Of(nil, c)) != 0 || len(Of([]api.Float{}, c)) != 0 {
			t.Errorf("Of(%d) of no floats", c)
		}
	}
}

// P12.2: the indices are all those of the class, and in increasing order.
func TestOfByText(t *testing.T) {
	for _, l := range lists() {
		for _, c := range near() {
			ids := Of(l, c)
			for i, id := range ids {
				if i > 0 && ids[i-1] >= id {
					t.Errorf("Of(%v, %d) = %v does not increase", l, c, ids)
				}
			}
			for i, f := range l {
				if slices.Contains(ids, i) != (f.C == c) {
					t.Errorf("Of(%v, %d) = %v is wrong about %d", l, c, ids, i)
				}
			}
			if len(ids) > len(l) || slices.ContainsFunc(ids, func(i int) bool { return i < 0 || i >= len(l) }) {
				t.Errorf("Of(%v, %d) = %v has other indices", l, c, ids)
			}
		}
	}
}

// P12.2: floats are counted in their classes, and nowhere if theirs is invalid.
func TestCounts(t *testing.T) {
	for _, c := range []struct {
		l    []api.Float
		want [3]int
	}{
		{nil, [3]int{}}, {[]api.Float{}, [3]int{}},
		{of(0), [3]int{1, 0, 0}}, {of(1), [3]int{0, 1, 0}}, {of(2), [3]int{0, 0, 1}},
		{of(0, 0, 0), [3]int{3, 0, 0}}, {of(1, 1), [3]int{0, 2, 0}}, {of(2, 2, 2, 2), [3]int{0, 0, 4}},
		{of(0, 2, 1, 2, 0, 2), [3]int{2, 1, 3}}, {of(2, 1, 0), [3]int{1, 1, 1}},
		{of(-1), [3]int{}}, {of(3), [3]int{}}, {of(extremes()...), [3]int{}},
		{of(-1, 0, 3, 1, 4, 1, -3, 2), [3]int{1, 2, 1}}, {of(near()...), [3]int{1, 1, 1}},
		{slices.Repeat(of(0, 1, 0, 2), 200), [3]int{400, 200, 200}},
		{[]api.Float{{}, {H: least, Where: -1}, {C: 2, H: most, Where: 9}}, [3]int{2, 0, 1}},
	} {
		if got := Counts(c.l); got != c.want {
			t.Errorf("Counts(%v) = %v, want %v", c.l, got, c.want)
		}
	}
}

// P12.3: every float with a valid class belongs to exactly one class, and the
// classes have no other floats.
func TestOneClassEach(t *testing.T) {
	for _, l := range lists() {
		seen := make([]int, len(l))
		counts := Counts(l)
		for c, count := range counts {
			ids := Of(l, c)
			if len(ids) != count {
				t.Errorf("class %d of %v has %d floats, and %d are counted", c, l, len(ids), count)
			}
			for _, i := range ids {
				seen[i]++
			}
		}
		for i, f := range l {
			want := 0
			if f.C >= 0 && f.C <= 2 {
				want = 1
			}
			if seen[i] != want {
				t.Errorf("float %d of %v is in %d classes", i, l, seen[i])
			}
		}
	}
}

// P12.1, P12.2, P4: no call changes a list, nor what was returned before.
func TestNothingChanges(t *testing.T) {
	for _, l := range lists() {
		before := slices.Clone(l)
		ids := []int{3, 0, -1, 0, 2, len(l)}
		named := slices.Clone(ids)
		High(l, ids, 4)
		Counts(l)
		for n := -1; n <= len(l); n++ {
			f, _ := At(l, n)
			Check(f)
			Top(f)
			Bottom(f)
		}
		for _, c := range near() {
			first := Of(l, c)
			kept := slices.Clone(first)
			again := Of(l, c)
			for i := range again {
				again[i] = -9
			}
			if !slices.Equal(first, kept) || !slices.Equal(Of(l, c), kept) {
				t.Errorf("the indices of class %d of %v share memory", c, l)
			}
		}
		if !slices.Equal(l, before) || !slices.Equal(ids, named) {
			t.Errorf("%v and %v were changed to %v and %v", before, named, l, ids)
		}
	}
}
