package vlist

import (
	"math"
	"math/rand"
	"slices"
	"sync"
	"testing"

	"tympan/api"
)

// The items by their kinds, as the document numbers them.
func box() api.Item      { return api.Item{K: 1, H: 3} }
func glue() api.Item     { return api.Item{K: 2, H: 1} }
func pen(n int) api.Item { return api.Item{K: 3, N: n} }
func mark() api.Item     { return api.Item{K: 4, N: 1} }
func barrier() api.Item  { return api.Item{K: 7} }

// sample is one item of each kind, with a penalty of 5, and of two kinds that do
// not exist. Their N would force or forbid if they were penalties.
func sample() []api.Item {
	return []api.Item{
		{K: 1, H: 3, N: -10000}, {K: 2, H: 1, N: -10000}, {K: 3, N: 5}, {K: 4, N: -10000}, {K: 5, N: 10000},
		{K: 6, N: -20000}, {K: 7, N: 10001}, {K: 0, N: -10000}, {K: 8, N: -10000},
	}
}

// alphabet is sample with penalties of every size.
func alphabet() []api.Item {
	l := sample()
	for _, n := range penalties() {
		l = append(l, pen(n))
	}
	return l
}

func penalties() []int {
	return []int{math.MinInt, -10001, -10000, -9999, -1, 0, 9999, 10000, 10001, math.MaxInt}
}

// extremes are numbers far from every list.
func extremes() []int {
	return []int{math.MinInt, math.MinInt + 1, -1 << 32, -10000, 10000, 1 << 32, math.MaxInt - 1, math.MaxInt}
}

// positions are those of l and some on both sides.
func positions(l []api.Item) []int {
	p := extremes()
	for n := -3; n <= len(l)+3; n++ {
		p = append(p, n)
	}
	return p
}

// lists are all lists of up to three items of the alphabet, long ones of one
// item and some at random.
func lists() [][]api.Item {
	all := [][]api.Item{nil, {}}
	for _, a := range alphabet() {
		all = append(all, []api.Item{a}, slices.Repeat([]api.Item{a}, 9))
		for _, b := range alphabet() {
			all = append(all, []api.Item{a, b})
			for _, c := range alphabet() {
				all = append(all, []api.Item{a, b, c})
			}
		}
	}
	r := rand.New(rand.NewSource(18))
	for range 300 {
		l := make([]api.Item, r.Intn(40))
		for i := range l {
			l[i] = alphabet()[r.Intn(len(alphabet()))]
			if r.Intn(2) == 0 {
				l[i] = []api.Item{box(), glue(), pen(10000)}[r.Intn(3)]
			}
		}
		all = append(all, l)
	}
	return all
}

// The definitions of the chapter, as the text has them.

func loose(x api.Item) bool { return x.K == 2 || x.K == 3 }

func mayBreak(l []api.Item, b int) bool {
	if b < 1 || b > len(l) {
		return false
	}
	return b == len(l) || l[b].K == 2 && !loose(l[b-1]) || l[b].K == 3 && l[b].N < 10000
}

func mustBreak(l []api.Item, b int) bool {
	return b >= 0 && b < len(l) && l[b].K == 3 && l[b].N <= -10000
}

func trimmed(l []api.Item, n int) int {
	for i, x := range l {
		if i >= n && !loose(x) {
			return i
		}
	}
	return len(l)
}

// mays are all positions after n at which l may break.
func mays(l []api.Item, n int) []int {
	var p []int
	for b := range len(l) + 1 {
		if b > n && mayBreak(l, b) {
			p = append(p, b)
		}
	}
	return p
}

func forced(l []api.Item, n int) int {
	if n >= len(l) || len(l) == 0 {
		return -1
	}
	for b := range l {
		if b > max(n, 0) && mustBreak(l, b) {
			return b
		}
	}
	return len(l)
}

func first(l []api.Item, n int) int {
	if p := mays(l, n); len(p) > 0 {
		return p[0]
	}
	return -1
}

func breaks(l []api.Item, n int) []int {
	var p []int
	for _, b := range mays(l, n) {
		if b <= forced(l, n) {
			p = append(p, b)
		}
	}
	return p
}

func between(l []api.Item, n, b int) []int {
	var p []int
	for i := range l {
		if i >= n && i < b {
			p = append(p, i)
		}
	}
	return p
}

// expect holds a number against the one that is required.
func expect(t *testing.T, what string, l []api.Item, n, got, want int) {
	t.Helper()
	if got != want {
		t.Errorf("%s(%d) of %v = %d, want %d", what, n, l, got, want)
	}
}

// expectList holds a list of numbers against the one that is required.
func expectList(t *testing.T, what string, l []api.Item, n int, got, want []int) {
	t.Helper()
	if !slices.Equal(got, want) {
		t.Errorf("%s(%d) of %v = %v, want %v", what, n, l, got, want)
	}
}

// expectMay holds May against the positions that are allowed, and no others.
func expectMay(t *testing.T, l []api.Item, want ...int) {
	t.Helper()
	v := New(l)
	for _, b := range positions(l) {
		if got := v.May(b); got != slices.Contains(want, b) {
			t.Errorf("May(%d) of %v = %v", b, l, got)
		}
	}
}

// P18.1, P18.2: the chapter's example.
func TestExample(t *testing.T) {
	l := []api.Item{box(), glue(), box(), pen(10000), glue(), box()}
	v := New(l)
	expectMay(t, l, 1, 6)
	expectList(t, "Breaks", l, 0, v.Breaks(0), []int{1, 6})
	expectList(t, "Breaks", l, 1, v.Breaks(1), []int{6})
	expectList(t, "Breaks", l, 5, v.Breaks(5), []int{6})
	expectList(t, "Breaks", l, 6, v.Breaks(6), nil)
	for n, want := range []int{1, 6, 6, 6, 6, 6, -1, -1} {
		expect(t, "First", l, n, v.First(n), want)
	}
	for n, want := range []int{6, 6, 6, 6, 6, 6, -1, -1} {
		expect(t, "Force", l, n, v.Force(n), want)
	}
	for n, want := range []int{0, 2, 2, 5, 5, 5, 6, 6} {
		expect(t, "Trim", l, n, v.Trim(n), want)
	}
}

// P18.1: a list has the items that were passed, at each index and at no other.
func TestItems(t *testing.T) {
	one := sample()[:1]
	for _, l := range [][]api.Item{nil, {}, one, sample(), alphabet(), slices.Repeat(alphabet(), 300)} {
		v := New(l)
		if v == nil || v.Len() != len(l) {
			t.Fatalf("%d items are %d", len(l), v.Len())
		}
		for n, want := range l {
			if got, ok := v.At(n); got != want || !ok {
				t.Errorf("At(%d) = %v, %v, want %v", n, got, ok, want)
			}
		}
		for _, n := range append(extremes(), -2, -1, len(l), len(l)+1) {
			if n >= 0 && n < len(l) {
				continue
			}
			if got, ok := v.At(n); got != (api.Item{}) || ok {
				t.Errorf("At(%d) of %d items = %v, %v", n, len(l), got, ok)
			}
		}
	}
}

// P18.1: a list of one item of each kind, and how it may break.
func TestKinds(t *testing.T) {
	for _, x := range alphabet() {
		l := []api.Item{x}
		expectMay(t, l, 1)
		v := New(l)
		if got, ok := v.At(0); v.Len() != 1 || got != x || !ok {
			t.Errorf("a list of %v has %d items, the first one %v", x, v.Len(), got)
		}
		want := 0
		if x.K == api.KGlue || x.K == api.KPen {
			want = 1
		}
		expect(t, "Trim", l, 0, v.Trim(0), want)
		expectList(t, "Breaks", l, 0, v.Breaks(0), []int{1})
	}
}

// P18.1: a list of nothing may not break, not even at its end, which is 0.
func TestMayNothing(t *testing.T) {
	expectMay(t, nil)
	expectMay(t, []api.Item{})
}

// P18.1: at a glue the list may break if what precedes it is not loose.
func TestMayGlue(t *testing.T) {
	for _, x := range alphabet() {
		want := x.K != api.KGlue && x.K != api.KPen
		if got := New([]api.Item{mark(), x, glue(), box()}).May(2); got != want {
			t.Errorf("May at the glue behind %v = %v", x, got)
		}
		if got := New([]api.Item{x, glue()}).May(1); got != want {
			t.Errorf("May at the last glue behind %v = %v", x, got)
		}
	}
	expectMay(t, []api.Item{box(), glue(), glue(), glue()}, 1, 4)
	expectMay(t, []api.Item{glue(), glue(), box(), glue(), box()}, 3, 5)
}

// P18.1: at a penalty the list may break if it is below 10000, whatever precedes
// it and whatever follows.
func TestMayPenalty(t *testing.T) {
	for n, ok := range map[int]bool{
		math.MinInt: true, -10001: true, -10000: true, -9999: true, -1: true, 0: true, 1: true, 50: true, 9998: true, 9999: true,
		10000: false, 10001: false, 10002: false, math.MaxInt: false,
	} {
		for _, x := range alphabet() {
			l := []api.Item{box(), x, pen(n), box(), mark()}
			if got := New(l).May(2); got != ok {
				t.Errorf("May at the penalty %d behind %v = %v", n, x, got)
			}
		}
		if New([]api.Item{pen(n), box(), box()}).May(0) {
			t.Errorf("May at the penalty %d at 0", n)
		}
	}
}

// P18.1: at items that are neither glues nor penalties the list may not break,
// whatever their numbers are.
func TestMayNeither(t *testing.T) {
	for _, x := range sample() {
		if x.K == api.KGlue || x.K == api.KPen {
			continue
		}
		expectMay(t, []api.Item{x, x, x, x}, 4)
		expectMay(t, []api.Item{glue(), x, pen(7), x, box()}, 2, 5)
	}
}

// P18.1: May returns what the text says, at every position of every list.
func TestMayByText(t *testing.T) {
	for _, l := range lists() {
		v := New(l)
		for _, b := range positions(l) {
			if got := v.May(b); got != mayBreak(l, b) {
				t.Errorf("May(%d) of %v = %v", b, l, got)
			}
		}
	}
}

// P18.1: trimming skips none, one and several loose items, and those up to the
// end; numbers outside of the list count as its end and its beginning.
func TestTrim(t *testing.T) {
	for _, c := range []struct {
		l    []api.Item
		want []int // from 0 on
	}{
		{nil, []int{0, 0, 0}},
		{[]api.Item{}, []int{0, 0, 0}},
		{[]api.Item{box()}, []int{0, 1, 1}},
		{[]api.Item{glue()}, []int{1, 1, 1}},
		{[]api.Item{pen(0)}, []int{1, 1, 1}},
		{[]api.Item{box(), mark(), barrier()}, []int{0, 1, 2, 3, 3}},
		{[]api.Item{box(), glue(), mark(), pen(10000), barrier()}, []int{0, 2, 2, 4, 4, 5, 5}},
		{[]api.Item{glue(), pen(-10000), pen(10000), glue(), box(), glue()}, []int{4, 4, 4, 4, 4, 6, 6, 6}},
		{[]api.Item{box(), pen(-10001), glue(), pen(5), glue()}, []int{0, 5, 5, 5, 5, 5, 5}},
		{[]api.Item{glue(), glue(), pen(1)}, []int{3, 3, 3, 3, 3}},
		{sample(), []int{0, 3, 3, 3, 4, 5, 6, 7, 8, 9, 9}},
	} {
		v := New(c.l)
		for n, want := range c.want {
			expect(t, "Trim", c.l, n, v.Trim(n), want)
		}
		for _, n := range extremes() {
			want := len(c.l)
			if n < 0 {
				want = c.want[0]
			}
			expect(t, "Trim", c.l, n, v.Trim(n), want)
		}
		expect(t, "Trim", c.l, -1, v.Trim(-1), c.want[0])
	}
}

// P18.1: Trim returns what the text says, for every position of every list.
func TestTrimByText(t *testing.T) {
	for _, l := range lists() {
		v := New(l)
		for _, n := range positions(l) {
			expect(t, "Trim", l, n, v.Trim(n), trimmed(l, n))
		}
	}
}

// P18.2: First, Force and Breaks of lists with no break, one and several after
// each position.
func TestSearches(t *testing.T) {
	for _, c := range []struct {
		l            []api.Item
		first, force []int // from 0 on
		breaks       [][]int
	}{
		{nil, []int{-1, -1}, []int{-1, -1}, [][]int{nil, nil}},
		{[]api.Item{}, []int{-1, -1}, []int{-1, -1}, [][]int{nil, nil}},
		{[]api.Item{box()}, []int{1, -1, -1}, []int{1, -1, -1}, [][]int{{1}, nil, nil}},
		{
			[]api.Item{box(), pen(0), box(), glue(), box()},
			[]int{1, 3, 3, 5, 5, -1, -1},
			[]int{5, 5, 5, 5, 5, -1, -1},
			[][]int{{1, 3, 5}, {3, 5}, {3, 5}, {5}, {5}, nil, nil},
		},
		{ // a penalty that forces at 0: no position precedes it
			[]api.Item{pen(-10000), box(), glue()},
			[]int{2, 2, 3, -1},
			[]int{3, 3, 3, -1},
			[][]int{{2, 3}, {2, 3}, {3}, nil},
		},
		{ // one at each position, and at the last item
			[]api.Item{pen(-10000), pen(-10000), pen(-10001), pen(-10000)},
			[]int{1, 2, 3, 4, -1},
			[]int{1, 2, 3, 4, -1},
			[][]int{{1}, {2}, {3}, {4}, nil},
		},
		{ // one behind others that are allowed and that are forbidden
			[]api.Item{box(), glue(), pen(9999), pen(10000), pen(-9999), pen(-10000), box(), pen(10001), glue(), pen(7), box()},
			[]int{1, 2, 4, 4, 5, 9, 9, 9, 9, 11, 11, -1, -1},
			[]int{5, 5, 5, 5, 5, 11, 11, 11, 11, 11, 11, -1, -1},
			[][]int{{1, 2, 4, 5}, {2, 4, 5}, {4, 5}, {4, 5}, {5}, {9, 11}, {9, 11}, {9, 11}, {9, 11}, {11}, {11}, nil, nil},
		},
		{ // nothing is allowed before the end
			[]api.Item{glue(), pen(10000), glue(), box(), mark(), barrier()},
			[]int{6, 6, 6, 6, 6, 6, -1, -1},
			[]int{6, 6, 6, 6, 6, 6, -1, -1},
			[][]int{{6}, {6}, {6}, {6}, {6}, {6}, nil, nil},
		},
		{ // only penalties force, whatever the numbers of other items are
			sample(),
			[]int{1, 2, 9, 9, 9, 9, 9, 9, 9, -1},
			[]int{9, 9, 9, 9, 9, 9, 9, 9, 9, -1},
			[][]int{{1, 2, 9}, {2, 9}, {9}, {9}, {9}, {9}, {9}, {9}, {9}, nil},
		},
	} {
		v := New(c.l)
		for n := range c.first {
			expect(t, "First", c.l, n, v.First(n), c.first[n])
			expect(t, "Force", c.l, n, v.Force(n), c.force[n])
			expectList(t, "Breaks", c.l, n, v.Breaks(n), c.breaks[n])
		}
		for _, n := range append(extremes(), -1, -2) {
			at := 0
			if n > 0 {
				at = len(c.first) - 1
			}
			expect(t, "First", c.l, n, v.First(n), c.first[at])
			expect(t, "Force", c.l, n, v.Force(n), c.force[at])
			expectList(t, "Breaks", c.l, n, v.Breaks(n), c.breaks[at])
		}
	}
}

// P18.2: First, Force and Breaks return what the text says, from every position
// of every list.
func TestSearchesByText(t *testing.T) {
	for _, l := range lists() {
		v := New(l)
		for _, n := range positions(l) {
			expect(t, "First", l, n, v.First(n), first(l, n))
			expect(t, "Force", l, n, v.Force(n), forced(l, n))
			expectList(t, "Breaks", l, n, v.Breaks(n), breaks(l, n))
		}
	}
}

// P18.2: the indices between two numbers, in the list and outside of it.
func TestBetween(t *testing.T) {
	l := slices.Repeat([]api.Item{glue(), box()}, 3)
	for _, c := range []struct {
		n, b int
		want []int
	}{
		{0, 6, []int{0, 1, 2, 3, 4, 5}}, {0, 1, []int{0}}, {2, 5, []int{2, 3, 4}}, {5, 6, []int{5}}, {4, 6, []int{4, 5}},
		{-1, 2, []int{0, 1}}, {math.MinInt, 2, []int{0, 1}}, {4, 7, []int{4, 5}}, {4, math.MaxInt, []int{4, 5}},
		{math.MinInt, math.MaxInt, []int{0, 1, 2, 3, 4, 5}},
		{0, 0, nil}, {3, 3, nil}, {6, 6, nil}, {4, 2, nil}, {6, 0, nil}, {6, 9, nil}, {7, 9, nil}, {-3, -1, nil}, {-3, 0, nil}, {2, -1, nil},
		{math.MaxInt, math.MinInt, nil}, {math.MaxInt, math.MaxInt, nil}, {math.MinInt, math.MinInt, nil},
	} {
		if got := New(l).Between(c.n, c.b); !slices.Equal(got, c.want) {
			t.Errorf("Between(%d, %d) = %v, want %v", c.n, c.b, got, c.want)
		}
	}
}

// P18.2: Between returns what the text says; which items they are plays no part.
func TestBetweenByText(t *testing.T) {
	for _, l := range [][]api.Item{nil, {}, {box()}, {glue()}, {pen(-10000), pen(10000)}, sample(), alphabet()} {
		v := New(l)
		for _, n := range positions(l) {
			for _, b := range positions(l) {
				if got, want := v.Between(n, b), between(l, n, b); !slices.Equal(got, want) {
					t.Errorf("Between(%d, %d) of %d items = %v, want %v", n, b, len(l), got, want)
				}
			}
		}
	}
}

// P18.1, P18.2, P3: a nil list, a plain one, and the lists of nil and of no
// items.
func TestNothing(t *testing.T) {
	var none *List
	for what, v := range map[string]*List{"nil": none, "plain": {}, "of nil": New(nil), "of none": New([]api.Item{})} {
		if v.Len() != 0 {
			t.Errorf("%s: %d items", what, v.Len())
		}
		for _, n := range positions(nil) {
			if x, ok := v.At(n); x != (api.Item{}) || ok {
				t.Errorf("%s: At(%d) = %v, %v", what, n, x, ok)
			}
			if v.May(n) || v.Trim(n) != 0 || v.First(n) != -1 || v.Force(n) != -1 {
				t.Errorf("%s at %d: %v, %d, %d, %d", what, n, v.May(n), v.Trim(n), v.First(n), v.Force(n))
			}
			if len(v.Breaks(n)) != 0 || len(v.Between(n, 9)) != 0 || len(v.Between(-9, n)) != 0 {
				t.Errorf("%s at %d: %v, %v", what, n, v.Breaks(n), v.Between(n, 9))
			}
		}
	}
}

// P18.3: from every position before the end there is a first break, which is not
// behind Force; the list may break at Force; a trimmed position stays where it
// is.
func TestFollows(t *testing.T) {
	for _, l := range lists() {
		v := New(l)
		for n := range l {
			first, force := v.First(n), v.Force(n)
			if first <= n || first > force || force > len(l) || !v.May(first) || !v.May(force) {
				t.Errorf("from %d of %v: first %d, forced %d", n, l, first, force)
			}
			checkBreaks(t, v, n)
		}
		for _, n := range positions(l) {
			at := v.Trim(n)
			expect(t, "Trim", l, at, v.Trim(at), at)
			if at < min(n, len(l)) || at < 0 || at > len(l) {
				t.Errorf("Trim(%d) of %v = %d", n, l, at)
			}
		}
	}
}

// checkBreaks holds the breaks after n against First and Force: they begin with
// the one, end with the other, and increase.
func checkBreaks(t *testing.T, v *List, n int) {
	t.Helper()
	l := v.Breaks(n)
	if len(l) == 0 || l[0] != v.First(n) || l[len(l)-1] != v.Force(n) {
		t.Errorf("the breaks after %d are %v", n, l)
	}
	for i, b := range l {
		if !v.May(b) || i > 0 && b <= l[i-1] {
			t.Errorf("the breaks after %d are %v", n, l)
		}
	}
}

// P18.2, P18.3: a list with as many items as a job may have, and longer ones.
func TestLong(t *testing.T) {
	for _, count := range []int{4095, 4096, 4097, 20000} {
		l := slices.Repeat([]api.Item{mark()}, count)
		v := New(l)
		l[count-1] = pen(-10000)
		w := New(l)
		if v.First(0) != count || v.Force(0) != count || !slices.Equal(v.Breaks(0), []int{count}) || len(v.Between(0, count)) != count {
			t.Errorf("%d marks: First %d, Force %d", count, v.First(0), v.Force(0))
		}
		if w.First(0) != count-1 || w.Force(0) != count-1 || w.Trim(count-1) != count || !slices.Equal(w.Breaks(0), []int{count - 1}) {
			t.Errorf("%d items: First %d, Force %d", count, w.First(0), w.Force(0))
		}
	}
}

// ask calls everything that a list has, and changes the lists that are returned.
func ask(v *List, l []api.Item) {
	v.Len()
	for _, n := range positions(l) {
		v.At(n)
		v.May(n)
		v.Trim(n)
		v.First(n)
		v.Force(n)
		for _, p := range [][]int{v.Breaks(n), v.Between(n, len(l)), v.Between(0, n)} {
			p = p[:cap(p)]
			for i := range p {
				p[i] = -9
			}
		}
	}
}

// P4: the items that were passed read as before, also behind the end of what was
// passed, and no list that was returned is changed.
func TestNothingChanges(t *testing.T) {
	for _, whole := range [][]api.Item{sample(), alphabet(), {glue(), pen(-10000), box(), glue(), box(), mark()}} {
		before := slices.Clone(whole)
		for end := range len(whole) + 1 {
			v := New(whole[:end])
			breaks, all := v.Breaks(0), v.Between(0, end)
			keptBreaks, keptAll := slices.Clone(breaks), slices.Clone(all)
			ask(v, whole)
			if !slices.Equal(whole, before) {
				t.Fatalf("%v was changed to %v", before, whole)
			}
			if !slices.Equal(breaks, keptBreaks) || !slices.Equal(all, keptAll) {
				t.Errorf("lists that were returned were changed to %v and %v", breaks, all)
			}
			expectList(t, "Breaks", whole, 0, v.Breaks(0), keptBreaks)
			expectList(t, "Between", whole, 0, v.Between(0, end), keptAll)
		}
	}
}

// P4: a list keeps its items as they were when it was created.
func TestKeeps(t *testing.T) {
	l := []api.Item{box(), glue(), box(), pen(10000), glue(), box()}
	kept := slices.Clone(l)
	v := New(l)
	for i := range l {
		l[i] = pen(-10000)
	}
	for i, want := range kept {
		if got, ok := v.At(i); got != want || !ok {
			t.Errorf("At(%d) = %v, %v, want %v", i, got, ok, want)
		}
	}
	expectList(t, "Breaks", kept, 0, v.Breaks(0), []int{1, 6})
}

// P5: lists of the same items answer the same, before and after other calls, and
// when they are asked at once.
func TestAgainAndAtOnce(t *testing.T) {
	l := []api.Item{box(), glue(), pen(9999), mark(), glue(), pen(10000), box(), pen(-10000), glue(), box()}
	v, w := New(l), New(slices.Clone(l))
	ask(w, l)
	var wait sync.WaitGroup
	for range 8 {
		wait.Go(func() {
			for _, n := range positions(l) {
				for _, x := range []*List{v, w} {
					expect(t, "Trim", l, n, x.Trim(n), trimmed(l, n))
					expect(t, "First", l, n, x.First(n), first(l, n))
					expect(t, "Force", l, n, x.Force(n), forced(l, n))
					expectList(t, "Breaks", l, n, x.Breaks(n), breaks(l, n))
				}
			}
		})
	}
	wait.Wait()
}
