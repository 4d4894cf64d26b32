package sums

import (
	"math"
	"math/rand"
	"slices"
	"sync"
	"testing"

	"tympan/api"
)

// sample is one item of each kind, and of kinds that do not exist, with numbers
// in all fields, so that those which the kind does not have would be noticed.
func sample() []api.Item {
	l := make([]api.Item, 0, 15)
	for k := -1; k <= 9; k++ {
		l = append(l, numbered(k, 0))
	}
	return append(l, numbered(2, 1), numbered(2, 2), numbered(2, 3), numbered(2, 4), numbered(2, -1))
}

// numbered is an item with a different number in each field.
func numbered(k, ord int) api.Item {
	return api.Item{K: k, H: api.Sp(100 + k), F: 1, Str: api.Sp(200 + ord), Ord: ord, Shr: api.Sp(31 + k), N: -10000}
}

func box(h api.Sp) api.Item { return api.Item{K: 1, H: h} }
func glue(h, str api.Sp, ord int, shr api.Sp) api.Item {
	return api.Item{K: 2, H: h, Str: str, Ord: ord, Shr: shr}
}

// extremes are numbers far from every list.
func extremes() []int {
	return []int{math.MinInt, math.MinInt + 1, -1 << 32, -4096, 5000, 1 << 32, math.MaxInt - 1, math.MaxInt}
}

// positions are those of a list of n items and some on both sides.
func positions(n int) []int {
	p := extremes()
	for a := -3; a <= n+3; a++ {
		p = append(p, a)
	}
	return p
}

// lists are lists of each kind of item, of one item and of several.
func lists() [][]api.Item {
	all := [][]api.Item{nil, {}, sample(), slices.Repeat(sample(), 2)}
	for _, a := range sample() {
		all = append(all, []api.Item{a}, slices.Repeat([]api.Item{a}, 6))
		for _, b := range sample() {
			all = append(all, []api.Item{a, b}, []api.Item{a, b, box(3), a}, []api.Item{b, a, glue(5, 4, 2, 1), b})
		}
	}
	r := rand.New(rand.NewSource(19))
	for range 40 {
		l := make([]api.Item, r.Intn(20))
		for i := range l {
			l[i] = sample()[r.Intn(len(sample()))]
			l[i].H, l[i].Str, l[i].Shr = randomSp(r), randomSp(r), randomSp(r)
		}
		all = append(all, l)
	}
	return all
}

// randomSp is a length that a fair list may have, of any size.
func randomSp(r *rand.Rand) api.Sp { return api.Sp(r.Int63n(1<<32+1) >> r.Intn(33)) }

// The definitions of the chapters, as the text has them.

// totalOf is the total of an item.
func totalOf(x api.Item) api.Total {
	var t api.Total
	if x.K == 1 || x.K == 2 {
		t.Nat = x.H
	}
	if x.K == 2 {
		t.Shr = x.Shr
		if x.Ord == 0 || x.Ord == 1 || x.Ord == 2 || x.Ord == 3 {
			t.Str[x.Ord] = x.Str
		}
	}
	return t
}

// plus is the sum of two totals that are not great.
func plus(a, b api.Total) api.Total {
	return api.Total{
		Nat: a.Nat + b.Nat,
		Str: [4]api.Sp{a.Str[0] + b.Str[0], a.Str[1] + b.Str[1], a.Str[2] + b.Str[2], a.Str[3] + b.Str[3]},
		Shr: a.Shr + b.Shr,
	}
}

// of, glues and boxes go through the items one by one.
func of(l []api.Item, a, b int) api.Total {
	var t api.Total
	for i, x := range l {
		if i >= a && i < b {
			t = plus(t, totalOf(x))
		}
	}
	return t
}

func glues(l []api.Item, a, b int) []api.Total {
	var g []api.Total
	for i, x := range l {
		if i >= a && i < b && x.K == 2 {
			g = append(g, totalOf(x))
		}
	}
	return g
}

func boxes(l []api.Item, a, b int) api.Sp {
	var h api.Sp
	for i, x := range l {
		if i >= a && i < b && x.K == 1 {
			h += x.H
		}
	}
	return h
}

// create returns the sums of a fair list.
func create(t *testing.T, l []api.Item) *Sums {
	t.Helper()
	s, ok := New(l)
	if s == nil || !ok {
		t.Fatalf("New of %d items = %v, %v", len(l), s, ok)
	}
	return s
}

// expectNew holds New against whether the list is fair.
func expectNew(t *testing.T, l []api.Item, fair bool, what ...any) {
	t.Helper()
	s, ok := New(l)
	if ok != fair || (s != nil) != fair {
		t.Errorf("New of %d items %v = %v, %v", len(l), what, s != nil, ok)
	}
	if fair && s.Len() != len(l) {
		t.Errorf("Len of %d items %v = %d", len(l), what, s.Len())
	}
}

// expectRange holds the results for a range against those that are required.
func expectRange(t *testing.T, s *Sums, a, b int, all api.Total, g []api.Total, h api.Sp) {
	t.Helper()
	if got := s.Of(a, b); got != all {
		t.Errorf("Of(%d, %d) = %v, want %v", a, b, got, all)
	}
	if got := s.Glues(a, b); !slices.Equal(got, g) {
		t.Errorf("Glues(%d, %d) = %v, want %v", a, b, got, g)
	}
	if got := s.Boxes(a, b); got != h {
		t.Errorf("Boxes(%d, %d) = %d, want %d", a, b, got, h)
	}
}

// P19.1, P19.2: the chapter's example.
func TestExample(t *testing.T) {
	s := create(t, []api.Item{box(3), glue(2, 0, 0, 0), box(4)})
	expectRange(t, s, 0, 3, api.Total{Nat: 9}, []api.Total{{Nat: 2}}, 7)
	if s.Len() != 3 {
		t.Errorf("Len = %d", s.Len())
	}
}

// P19.1: lists without items are fair, and nil and empty ones are equivalent.
func TestNewNothing(t *testing.T) {
	expectNew(t, nil, true)
	expectNew(t, []api.Item{}, true)
	expectNew(t, sample()[:0], true)
}

// P19.1: lists of items of each kind, also of those that do not exist.
func TestNewKinds(t *testing.T) {
	for _, x := range sample() {
		expectNew(t, []api.Item{x}, true, x)
	}
	for _, k := range extremes() {
		expectNew(t, []api.Item{numbered(k, 0)}, true, k)
	}
	expectNew(t, sample(), true)
}

// P19.1: a list has at most 4096 items, whatever they are.
func TestNewLength(t *testing.T) {
	for n, fair := range map[int]bool{
		0: true, 1: true, 2: true, 4094: true, 4095: true, 4096: true,
		4097: false, 4098: false, 8192: false, 65536: false, 70000: false,
	} {
		for _, x := range []api.Item{{}, box(7), glue(5, 4, 3, 2), {K: 3, N: 5}, {K: 7}} {
			expectNew(t, slices.Repeat([]api.Item{x}, n), fair, x)
		}
	}
}

// lengths are numbers on both sides of the range of a fair list.
func lengths() map[api.Sp]bool {
	return map[api.Sp]bool{
		math.MinInt64: false, math.MinInt64 + 1: false, -1 << 32: false, -2: false, -1: false,
		0: true, 1: true, 1<<30 - 1: true, 1<<32 - 1: true, 1 << 32: true,
		1<<32 + 1: false, 1 << 33: false, 1 << 50: false, math.MaxInt64 - 1: false, math.MaxInt64: false,
	}
}

// P19.1: each field of the total of an item is between 0 and 2^32, wherever it
// stands in the list.
func TestNewFields(t *testing.T) {
	for n, fair := range lengths() {
		for _, x := range []api.Item{
			box(n), {K: 1, H: n, F: 3, Str: 5, Ord: 2, Shr: 7, N: 9},
			glue(n, 0, 0, 0), glue(n, 3, 2, 1), glue(0, 0, 0, n), glue(9, 1, 3, n), glue(n, n, 1, n),
			glue(0, n, 0, 0), glue(0, n, 1, 0), glue(0, n, 2, 0), glue(0, n, 3, 0), glue(1, n, 0, 1),
			glue(n, -1, 4, 0), glue(0, -1, -1, n),
		} {
			for _, length := range []int{1, 2, 7, 4096} {
				for _, at := range []int{0, length / 2, length - 1} {
					l := slices.Repeat([]api.Item{box(3), glue(2, 1, 1, 1), {K: 4, N: 1}}, length)[:length]
					l[at] = x
					expectNew(t, l, fair, x, at)
				}
			}
		}
	}
}

// P19.1: numbers in fields that are no part of the total of an item play no
// part, and they do not occur in the results.
func TestNewOtherFields(t *testing.T) {
	for n := range lengths() {
		wild := api.Item{H: n, F: int(n), Str: n, Ord: 1, Shr: n, N: int(n)}
		var l []api.Item
		for _, k := range []int{math.MinInt, -1, 0, 3, 4, 5, 6, 7, 8, math.MaxInt} {
			x := wild
			x.K = k
			expectNew(t, []api.Item{x}, true, x)
			l = append(l, x)
		}
		for _, ord := range []int{math.MinInt, -2, -1, 4, 5, math.MaxInt} {
			x := glue(2, n, ord, 1)
			x.F, x.N = int(n), int(n)
			expectNew(t, []api.Item{x}, true, x)
			l = append(l, x)
		}
		l = append(l, api.Item{K: 1, H: 9, F: int(n), Str: n, Ord: int(n), Shr: n, N: int(n)})
		g := slices.Repeat([]api.Total{{Nat: 2, Shr: 1}}, 6)
		expectRange(t, create(t, l), 0, len(l), api.Total{Nat: 21, Shr: 6}, g, 9)
	}
}

// P19.1: of several items that are not fair, and of too many items that are not
// fair, there are no sums either.
func TestNewSeveral(t *testing.T) {
	bad := []api.Item{box(-1), glue(1<<32+1, 0, 0, 0), glue(0, -1, 3, 0)}
	expectNew(t, bad, false)
	expectNew(t, slices.Repeat(bad, 2000), false)
	expectNew(t, append(slices.Repeat([]api.Item{box(3)}, 4096), bad...), false)
}

// P19.1, P19.2: the results for each pair of positions of a list, and outside of
// it, as numbers.
func TestRanges(t *testing.T) {
	// the list of the table: its items have the totals 10, {7; 0 2 0 0; 3}, 0, 20, {5; 0 0 0 4; 0}
	s := create(t, []api.Item{box(10), glue(7, 2, 1, 3), {K: 3, H: 8, N: 6}, box(20), glue(5, 4, 3, 0)})
	first, last := api.Total{Nat: 7, Str: [4]api.Sp{0, 2, 0, 0}, Shr: 3}, api.Total{Nat: 5, Str: [4]api.Sp{0, 0, 0, 4}}
	for _, c := range []struct {
		a, b  int
		all   api.Total
		glues []api.Total
		boxes api.Sp
	}{
		{0, 1, api.Total{Nat: 10}, nil, 10},
		{1, 2, first, []api.Total{first}, 0},
		{2, 3, api.Total{}, nil, 0},
		{3, 4, api.Total{Nat: 20}, nil, 20},
		{4, 5, last, []api.Total{last}, 0},
		{0, 5, api.Total{Nat: 42, Str: [4]api.Sp{0, 2, 0, 4}, Shr: 3}, []api.Total{first, last}, 30},
		{-1, 6, api.Total{Nat: 42, Str: [4]api.Sp{0, 2, 0, 4}, Shr: 3}, []api.Total{first, last}, 30},
		{math.MinInt, math.MaxInt, api.Total{Nat: 42, Str: [4]api.Sp{0, 2, 0, 4}, Shr: 3}, []api.Total{first, last}, 30},
		{-7, 2, api.Total{Nat: 17, Str: [4]api.Sp{0, 2, 0, 0}, Shr: 3}, []api.Total{first}, 10},
		{1, 4, api.Total{Nat: 27, Str: [4]api.Sp{0, 2, 0, 0}, Shr: 3}, []api.Total{first}, 20},
		{2, 5, api.Total{Nat: 25, Str: [4]api.Sp{0, 0, 0, 4}}, []api.Total{last}, 20},
		{2, 99, api.Total{Nat: 25, Str: [4]api.Sp{0, 0, 0, 4}}, []api.Total{last}, 20},
		{4, math.MaxInt, last, []api.Total{last}, 0},
		{math.MinInt, 1, api.Total{Nat: 10}, nil, 10},
	} {
		expectRange(t, s, c.a, c.b, c.all, c.glues, c.boxes)
	}
	for _, c := range [][2]int{
		{0, 0}, {3, 3}, {5, 5}, {6, 6}, {-1, -1}, {-1, 0}, {-9, -2}, {1, 0}, {4, 1}, {5, 0}, {5, 6}, {6, 9}, {9, 6}, {2, -1},
		{math.MaxInt, math.MinInt}, {math.MaxInt, math.MaxInt}, {math.MinInt, math.MinInt}, {math.MinInt, 0}, {5, math.MaxInt},
		{0, math.MinInt}, {math.MaxInt, 5},
	} {
		expectRange(t, s, c[0], c[1], api.Total{}, nil, 0)
	}
}

// P19.1, P19.2: Of, Glues and Boxes return what the text says, for every pair of
// positions of every list, and Len its length.
func TestByText(t *testing.T) {
	for _, l := range lists() {
		s := create(t, l)
		if s.Len() != len(l) {
			t.Errorf("Len of %v = %d", l, s.Len())
		}
		for _, a := range positions(len(l)) {
			for _, b := range positions(len(l)) {
				expectRange(t, s, a, b, of(l, a, b), glues(l, a, b), boxes(l, a, b))
			}
		}
	}
}

// P19.2: glues are returned in order, each with all of its fields, also equal and
// zero ones; other items are left out.
func TestGlues(t *testing.T) {
	l := []api.Item{glue(9, 1, 0, 2), {K: 3, H: 1}, glue(0, 0, 0, 0), box(8), glue(9, 1, 0, 2), glue(3, 7, 2, 1), {K: 8, H: 5}, glue(4, 6, -1, 5), glue(4, 6, 4, 5)}
	want := []api.Total{
		{Nat: 9, Str: [4]api.Sp{1, 0, 0, 0}, Shr: 2}, {}, {Nat: 9, Str: [4]api.Sp{1, 0, 0, 0}, Shr: 2},
		{Nat: 3, Str: [4]api.Sp{0, 0, 7, 0}, Shr: 1}, {Nat: 4, Shr: 5}, {Nat: 4, Shr: 5},
	}
	s := create(t, l)
	for _, c := range []struct{ a, b, from, to int }{
		{0, 9, 0, 6}, {0, 1, 0, 1}, {1, 9, 1, 6}, {2, 5, 1, 3}, {3, 4, 0, 0}, {4, 6, 2, 4}, {6, 7, 0, 0}, {6, 8, 4, 5}, {8, 20, 5, 6}, {-4, 3, 0, 2},
	} {
		if got := s.Glues(c.a, c.b); !slices.Equal(got, want[c.from:c.to]) {
			t.Errorf("Glues(%d, %d) = %v, want %v", c.a, c.b, got, want[c.from:c.to])
		}
	}
}

// P19.2: lists without glues have none, and those without boxes no height of
// boxes, although they have other heights.
func TestWithout(t *testing.T) {
	firm := []api.Item{box(3), {K: 3, H: 5, N: 4}, box(9), {K: 4, H: 6}, {K: 0, H: 2}}
	expectRange(t, create(t, firm), 0, 5, api.Total{Nat: 12}, nil, 12)
	soft := []api.Item{glue(6, 5, 0, 4), {K: 3, H: 5}, glue(3, 2, 0, 1), {K: 7, H: 6}, {K: 8, H: 2}}
	g := []api.Total{{Nat: 6, Str: [4]api.Sp{5}, Shr: 4}, {Nat: 3, Str: [4]api.Sp{2}, Shr: 1}}
	expectRange(t, create(t, soft), 0, 5, api.Total{Nat: 9, Str: [4]api.Sp{7}, Shr: 5}, g, 0)
	neither := []api.Item{{K: 3, H: 5}, {K: 4, H: 5}, {K: 5, H: 5}, {K: 6, H: 5}, {K: 7, H: 5}}
	expectRange(t, create(t, neither), 0, 5, api.Total{}, nil, 0)
}

// P19.1, P19.2: as many items as a list may have, with fields as great as they
// may be, add up to 2^44 in each field.
func TestGreatest(t *testing.T) {
	const top = 1 << 32
	for ord := range 4 {
		s := create(t, slices.Repeat([]api.Item{glue(top, top, ord, top)}, 4096))
		one, all := api.Total{Nat: top, Shr: top}, api.Total{Nat: 1 << 44, Shr: 1 << 44}
		one.Str[ord], all.Str[ord] = top, 1<<44
		expectRange(t, s, 0, 4096, all, slices.Repeat([]api.Total{one}, 4096), 0)
		expectRange(t, s, math.MinInt, math.MaxInt, all, slices.Repeat([]api.Total{one}, 4096), 0)
		expectRange(t, s, 4095, 4097, one, []api.Total{one}, 0)
		expectRange(t, s, 0, 1, one, []api.Total{one}, 0)
		expectRange(t, s, 4096, 4097, api.Total{}, nil, 0)
	}
	s := create(t, slices.Repeat([]api.Item{box(top)}, 4096))
	expectRange(t, s, 0, 4096, api.Total{Nat: 1 << 44}, nil, 1<<44)
	expectRange(t, s, 1, 4096, api.Total{Nat: 1<<44 - top}, nil, 1<<44-top)
	expectRange(t, s, 2048, 2050, api.Total{Nat: 2 * top}, nil, 2*top)
	if s.Len() != 4096 {
		t.Errorf("Len = %d", s.Len())
	}
}

// P19.1, P19.2: nil sums, plain ones, and those of lists without items.
func TestNothing(t *testing.T) {
	var none *Sums
	for what, s := range map[string]*Sums{"nil": none, "plain": {}, "of nil": create(t, nil), "of none": create(t, []api.Item{})} {
		if s.Len() != 0 {
			t.Errorf("%s: %d items", what, s.Len())
		}
		for _, a := range positions(0) {
			for _, b := range positions(0) {
				expectRange(t, s, a, b, api.Total{}, nil, 0)
			}
		}
	}
}

// P19.3: the results for two adjacent ranges add up to those of their union, for
// every three positions in order; so do the heights of boxes and glues to those
// of all.
func TestFollows(t *testing.T) {
	for _, l := range lists() {
		s := create(t, l)
		p := positions(min(len(l), 12))
		slices.Sort(p)
		for i, a := range p {
			for j := i; j < len(p); j++ {
				checkHeights(t, s, a, p[j])
				for _, c := range p[j:] {
					checkUnion(t, s, a, p[j], c)
				}
			}
		}
	}
}

// checkUnion holds the ranges from a to b and from b to c against that from a to
// c.
func checkUnion(t *testing.T, s *Sums, a, b, c int) {
	t.Helper()
	if got := plus(s.Of(a, b), s.Of(b, c)); got != s.Of(a, c) {
		t.Errorf("Of(%d, %d) and Of(%d, %d) add up to %v, not %v", a, b, b, c, got, s.Of(a, c))
	}
	if got := append(s.Glues(a, b), s.Glues(b, c)...); !slices.Equal(got, s.Glues(a, c)) {
		t.Errorf("Glues(%d, %d) and Glues(%d, %d) are %v, not %v", a, b, b, c, got, s.Glues(a, c))
	}
	if got := s.Boxes(a, b) + s.Boxes(b, c); got != s.Boxes(a, c) {
		t.Errorf("Boxes(%d, %d) and Boxes(%d, %d) add up to %d, not %d", a, b, b, c, got, s.Boxes(a, c))
	}
}

// checkHeights holds the heights of boxes and glues against that of all items.
func checkHeights(t *testing.T, s *Sums, a, b int) {
	t.Helper()
	h := s.Boxes(a, b)
	for _, g := range s.Glues(a, b) {
		h += g.Nat
	}
	if h != s.Of(a, b).Nat {
		t.Errorf("from %d to %d, boxes and glues are %d high, and all are %d", a, b, h, s.Of(a, b).Nat)
	}
}

// ask calls everything that sums have, and writes to the lists that are
// returned, also behind their ends.
func ask(s *Sums) {
	for _, a := range positions(s.Len()) {
		for _, b := range positions(s.Len()) {
			s.Of(a, b)
			s.Boxes(a, b)
			g := s.Glues(a, b)
			g = g[:cap(g)]
			for i := range g {
				g[i] = api.Total{Nat: -9, Shr: -9}
			}
		}
	}
}

// P4: the list that was passed reads as before, also behind the end of what was
// passed, and so do the lists that were returned.
func TestNothingChanges(t *testing.T) {
	whole := append(sample(), glue(4, 3, 2, 1), box(-1), glue(0, 1<<40, 0, 0))
	before := slices.Clone(whole)
	for end := range len(whole) + 1 {
		s, ok := New(whole[:end])
		kept := s.Glues(0, end)
		ask(s)
		if !slices.Equal(whole, before) {
			t.Fatalf("%v was changed to %v", before, whole)
		}
		if ok && (!slices.Equal(kept, glues(whole, 0, end)) || !slices.Equal(s.Glues(0, end), kept)) {
			t.Errorf("the glues of %d items are %v, after %v", end, s.Glues(0, end), kept)
		}
	}
}

// P4: sums stay those of the list as it was when they were created.
func TestKeeps(t *testing.T) {
	l := sample()
	s := create(t, l)
	for i := range l {
		l[i] = glue(1, 1, 1, 1)
	}
	l = sample()
	for a := range len(l) + 1 {
		expectRange(t, s, a, len(l), of(l, a, len(l)), glues(l, a, len(l)), boxes(l, a, len(l)))
	}
}

// P5: sums of the same items answer the same, before and after other calls, and
// when they are asked at once.
func TestAgainAndAtOnce(t *testing.T) {
	l := sample()
	s, again := create(t, l), create(t, slices.Clone(l))
	ask(again)
	var wait sync.WaitGroup
	for range 8 {
		wait.Go(func() {
			for a := range len(l) + 1 {
				for _, x := range []*Sums{s, again} {
					expectRange(t, x, a, len(l), of(l, a, len(l)), glues(l, a, len(l)), boxes(l, a, len(l)))
					expectRange(t, x, 0, a, of(l, 0, a), glues(l, 0, a), boxes(l, 0, a))
				}
			}
		})
	}
	wait.Wait()
}
