package para

import (
	"math"
	"math/rand"
	"slices"
	"sync"
	"testing"

	"tympan/api"
	"tympan/vlist"
)

// The items by their kinds, as the document numbers them.
func line(f int) api.Item { return api.Item{K: 1, H: 3, F: f} }
func glue() api.Item      { return api.Item{K: 2, H: 1} }
func pen(n int) api.Item  { return api.Item{K: 3, N: n} }

// sample is one item of each kind, and of kinds that do not exist. Their F would
// make them club or widow lines if they were boxes, and their N would add up,
// force or forbid if they were penalties.
func sample() []api.Item {
	return []api.Item{
		{K: 1, H: 3, N: -10000}, {K: 2, H: 1, F: 1, N: 77}, {K: 3, F: 2, N: 5}, {K: 4, F: 1, N: -10000},
		{K: 5, F: 2, N: 10000}, {K: 6, F: 1, N: -20000}, {K: 7, F: 2, N: 10001}, {K: 0, F: 1, N: 77}, {K: 8, F: 2, N: 77},
		{K: -1, F: 2, N: -10000},
	}
}

// penalties are those at the bounds that the chapters name, and beyond them.
func penalties() []int {
	return []int{math.MinInt, -10001, -10000, -9999, -1, 0, 1, 9999, 10000, 10001, math.MaxInt}
}

// alphabet is sample with a line of each F, penalties of every size, and glues
// whose F are those of a widow line.
func alphabet() []api.Item {
	l := append(sample(), api.Item{K: 2, F: 2}, api.Item{K: 3, F: 1})
	for f := -1; f <= 4; f++ {
		l = append(l, line(f))
	}
	for _, n := range penalties() {
		l = append(l, pen(n))
	}
	return l
}

// extremes are numbers far from every list.
func extremes() []int {
	return []int{math.MinInt, math.MinInt + 1, -1 << 32, -10000, 10000, 1 << 32, math.MaxInt - 1, math.MaxInt}
}

// positions are those of a list of n items and some on both sides.
func positions(n int) []int {
	p := extremes()
	for b := -3; b <= n+3; b++ {
		p = append(p, b)
	}
	return p
}

// lists are all lists of up to three items of the alphabet, long ones of one
// item, and some at random.
func lists() [][]api.Item {
	all := [][]api.Item{nil, {}, sample(), slices.Repeat(sample(), 2), alphabet()}
	for _, a := range alphabet() {
		all = append(all, []api.Item{a}, slices.Repeat([]api.Item{a}, 6))
		for _, b := range alphabet() {
			all = append(all, []api.Item{a, b})
			for _, c := range alphabet() {
				all = append(all, []api.Item{a, b, c})
			}
		}
	}
	r := rand.New(rand.NewSource(20))
	for range 300 {
		all = append(all, random(r))
	}
	return all
}

// random is a list with many breaks among a few lines.
func random(r *rand.Rand) []api.Item {
	l := make([]api.Item, r.Intn(40))
	for i := range l {
		l[i] = alphabet()[r.Intn(len(alphabet()))]
		if r.Intn(2) == 0 {
			l[i] = []api.Item{line(1), line(2), glue(), pen(9)}[r.Intn(4)]
		}
	}
	return l
}

// geoms are geometries whose Club and Widow are below 0, 0 and above it. The
// numbers of their other fields must not count.
func geoms() []api.Geom {
	var all []api.Geom
	for _, club := range []int{math.MinInt, -1, 0, 1, 700, 1 << 40} {
		for _, widow := range []int{math.MinInt, -1, 0, 1, 9000, 1 << 41} {
			all = append(all, api.Geom{Cols: 1, High: 9, Club: club, Widow: widow, Split: 31, Defer: 37, Spare: 41})
		}
	}
	return all
}

// The definitions of the chapters, as the text has them.

func ahead(l []api.Item, b int) int {
	last := -1
	for i, x := range l {
		if x.K == 1 && i < b {
			last = i
		}
	}
	return last
}

func behind(l []api.Item, b int) int {
	return slices.IndexFunc(slices.Collect(func(yield func(api.Item) bool) {
		for i, x := range l {
			if i < b {
				x = api.Item{}
			}
			if !yield(x) {
				return
			}
		}
	}), func(x api.Item) bool { return x.K == 1 })
}

func club(l []api.Item, b int) bool {
	i := ahead(l, b)
	return i >= 0 && l[i].F == 1
}

func widow(l []api.Item, b int) bool {
	i := behind(l, b)
	return i >= 0 && l[i].F == 2
}

// mayBreak leaves out the end, where nothing is added.
func mayBreak(l []api.Item, b int) bool {
	if b < 1 || b >= len(l) {
		return false
	}
	if l[b].K == 3 {
		return l[b].N < 10000
	}
	return l[b].K == 2 && l[b-1].K != 2 && l[b-1].K != 3
}

func mustBreak(l []api.Item, b int) bool { return l[b].K == 3 && l[b].N <= -10000 }

func of(clubs, widows int, l []api.Item, b int) int64 {
	if !mayBreak(l, b) || mustBreak(l, b) {
		return 0
	}
	sum := 0
	if l[b].K == 3 && l[b].N > 0 {
		sum = l[b].N
	}
	if club(l, b) && clubs > 0 {
		sum += clubs
	}
	if widow(l, b) && widows > 0 {
		sum += widows
	}
	return int64(sum)
}

// expectBoxes holds what is told about the boxes at a position against what is
// required.
func expectBoxes(t *testing.T, v *vlist.List, l []api.Item, b int) {
	t.Helper()
	if got, want := Ahead(v, b), ahead(l, b); got != want {
		t.Errorf("%v: Ahead at %d = %d, want %d", l, b, got, want)
	}
	if got, want := Behind(v, b), behind(l, b); got != want {
		t.Errorf("%v: Behind at %d = %d, want %d", l, b, got, want)
	}
	if got, want := Club(v, b), club(l, b); got != want {
		t.Errorf("%v: Club at %d = %v, want %v", l, b, got, want)
	}
	if got, want := Widow(v, b), widow(l, b); got != want {
		t.Errorf("%v: Widow at %d = %v, want %v", l, b, got, want)
	}
}

// expectOf holds the penalty at a position against the one that is required.
func expectOf(t *testing.T, g api.Geom, v *vlist.List, l []api.Item, b int) {
	t.Helper()
	if got, want := Of(g, v, b), of(g.Club, g.Widow, l, b); got != want {
		t.Errorf("%v: Of at %d = %d, want %d for Club %d and Widow %d", l, b, got, want, g.Club, g.Widow)
	}
}

// P20.1: the boxes at every position of lists of each kind of item.
func TestBoxesAtEveryPosition(t *testing.T) {
	for _, l := range lists() {
		v := vlist.New(l)
		for _, b := range positions(len(l)) {
			expectBoxes(t, v, l, b)
		}
	}
}

// P20.1: written out for one list, with a box at the position itself, with none,
// one and several on each side.
func TestBoxesByHand(t *testing.T) {
	v := vlist.New([]api.Item{glue(), line(1), pen(0), line(0), line(2), glue(), line(3), pen(3)})
	rows := []struct {
		b, ahead, behind int
		club, widow      bool
	}{
		{math.MinInt, -1, 1, false, false},
		{-1, -1, 1, false, false},
		{0, -1, 1, false, false},
		{1, -1, 1, false, false},
		{2, 1, 3, true, false},
		{3, 1, 3, true, false},
		{4, 3, 4, false, true},
		{5, 4, 6, false, false},
		{6, 4, 6, false, false},
		{7, 6, -1, false, false},
		{8, 6, -1, false, false},
		{9, 6, -1, false, false},
		{math.MaxInt, 6, -1, false, false},
	}
	for _, r := range rows {
		if got := Ahead(v, r.b); got != r.ahead {
			t.Errorf("Ahead at %d = %d, want %d", r.b, got, r.ahead)
		}
		if got := Behind(v, r.b); got != r.behind {
			t.Errorf("Behind at %d = %d, want %d", r.b, got, r.behind)
		}
		if Club(v, r.b) != r.club || Widow(v, r.b) != r.widow {
			t.Errorf("at %d: club %v, widow %v", r.b, Club(v, r.b), Widow(v, r.b))
		}
	}
}

// P20.1: a box of each F on both sides: only 1 makes a club line, and only 2 a
// widow line.
func TestFlags(t *testing.T) {
	for _, f := range []int{math.MinInt, -1, 0, 1, 2, 3, 4, 5, 6, math.MaxInt} {
		v := vlist.New([]api.Item{line(f), glue(), line(f)})
		for b := range 5 {
			if want := b > 0 && f == 1; Club(v, b) != want {
				t.Errorf("F %d: Club at %d = %v", f, b, !want)
			}
			if want := b < 3 && f == 2; Widow(v, b) != want {
				t.Errorf("F %d: Widow at %d = %v", f, b, !want)
			}
		}
	}
}

// P20.1: the F of items that are not boxes is left out of account, also where
// they are nearer than the box, and where there is no box.
func TestFlagsOfOtherItems(t *testing.T) {
	for _, k := range []int{math.MinInt, -1, 0, 2, 3, 4, 5, 6, 7, 8, math.MaxInt} {
		for f := range 4 {
			x := api.Item{K: k, F: f}
			alone := vlist.New([]api.Item{x, x})
			plain := vlist.New([]api.Item{line(0), x, x, line(0)})
			lines := vlist.New([]api.Item{line(1), x, x, line(2)})
			if Ahead(alone, 1) != -1 || Behind(alone, 1) != -1 || Club(alone, 1) || Widow(alone, 1) {
				t.Errorf("kind %d with F %d counts as a box", k, f)
			}
			if Ahead(plain, 2) != 0 || Behind(plain, 1) != 3 || Club(plain, 2) || Widow(plain, 1) {
				t.Errorf("kind %d with F %d counts beside boxes", k, f)
			}
			if !Club(lines, 2) || !Widow(lines, 1) {
				t.Errorf("kind %d with F %d hides a line", k, f)
			}
		}
	}
}

// P20.1: boxes that are far away are found over all the items between.
func TestBoxesFarAway(t *testing.T) {
	l := slices.Concat([]api.Item{line(1)}, slices.Repeat([]api.Item{pen(3)}, 4094), []api.Item{line(2)})
	v := vlist.New(l)
	for _, b := range []int{1, 2, 2048, 4094, 4095} {
		if Ahead(v, b) != 0 || Behind(v, b) != 4095 || !Club(v, b) || !Widow(v, b) {
			t.Errorf("at %d: %d and %d", b, Ahead(v, b), Behind(v, b))
		}
	}
}

// P20.2: the penalty at every position of lists of each kind of item, for one
// geometry whose numbers tell its parts apart.
func TestOfAtEveryPosition(t *testing.T) {
	g := api.Geom{Club: 1 << 20, Widow: 1 << 30}
	for _, l := range lists() {
		v := vlist.New(l)
		for _, b := range positions(len(l)) {
			expectOf(t, g, v, l, b)
		}
	}
}

// P20.2: every geometry, with a penalty of each size and with a glue between
// lines of each F.
func TestOfForGeometries(t *testing.T) {
	breaks := []api.Item{glue(), {K: 2, N: 77}, {K: 4, N: 77}, line(1), line(2)}
	for _, n := range penalties() {
		breaks = append(breaks, pen(n))
	}
	for _, x := range breaks {
		for before := -1; before <= 4; before++ {
			for after := -1; after <= 4; after++ {
				l := []api.Item{line(before), x, line(after)}
				v := vlist.New(l)
				for _, g := range geoms() {
					for b := -1; b <= 4; b++ {
						expectOf(t, g, v, l, b)
					}
				}
			}
		}
	}
}

// P20.2: the sums written out for penalties at the bounds: a penalty of -10000 or
// less must break and one of 10000 or more may not, so that nothing is added.
func TestOfPenaltiesByHand(t *testing.T) {
	g := api.Geom{Club: 700, Widow: 9000}
	rows := []struct {
		n                          int
		none, club, widow, between int64
	}{
		{math.MinInt, 0, 0, 0, 0},
		{-10001, 0, 0, 0, 0},
		{-10000, 0, 0, 0, 0},
		{-9999, 0, 700, 9000, 9700},
		{-1, 0, 700, 9000, 9700},
		{0, 0, 700, 9000, 9700},
		{1, 1, 701, 9001, 9701},
		{9999, 9999, 10699, 18999, 19699},
		{10000, 0, 0, 0, 0},
		{10001, 0, 0, 0, 0},
		{math.MaxInt, 0, 0, 0, 0},
	}
	for _, r := range rows {
		for _, c := range []struct {
			before, after int
			want          int64
		}{{0, 0, r.none}, {2, 1, r.none}, {3, 3, r.none}, {1, 0, r.club}, {0, 2, r.widow}, {1, 2, r.between}} {
			v := vlist.New([]api.Item{line(c.before), pen(r.n), line(c.after)})
			if got := Of(g, v, 1); got != c.want {
				t.Errorf("penalty %d between lines of F %d and %d: %d, want %d", r.n, c.before, c.after, got, c.want)
			}
		}
	}
}

// P20.2: a Club and a Widow below 0 count as 0, and do not take from each other or
// from the penalty.
func TestOfBelowZero(t *testing.T) {
	v := vlist.New([]api.Item{line(1), pen(50), line(2)})
	rows := []struct {
		club, widow int
		want        int64
	}{
		{0, 0, 50}, {-1, 0, 50}, {0, -1, 50}, {-60, -60, 50}, {math.MinInt, math.MinInt, 50},
		{-60, 9, 59}, {7, -60, 57}, {1, 1, 52}, {7, 9, 66}, {math.MinInt, 9, 59}, {7, math.MinInt, 57},
		{1<<63 - 51, 0, 1<<63 - 1}, {0, 1<<63 - 51, 1<<63 - 1}, {1 << 61, 1 << 62, 3<<61 + 50},
	}
	for _, r := range rows {
		if got := Of(api.Geom{Club: r.club, Widow: r.widow}, v, 1); got != r.want {
			t.Errorf("Club %d, Widow %d: %d, want %d", r.club, r.widow, got, r.want)
		}
	}
}

// P20.2: nothing is added where the list may not break, although lines are on
// both sides, and nothing at its end, which is a break.
func TestOfWhereNoBreakIs(t *testing.T) {
	g := api.Geom{Club: 7, Widow: 9}
	for _, x := range sample() {
		if x.K == 2 || x.K == 3 {
			continue
		}
		if got := Of(g, vlist.New([]api.Item{line(1), x, line(2)}), 1); got != 0 {
			t.Errorf("at an item of the kind %d: %d", x.K, got)
		}
	}
	loose := vlist.New([]api.Item{line(1), glue(), glue(), pen(10000), glue(), line(2), line(1)})
	for b, want := range []int64{0, 16, 0, 0, 0, 0, 0, 0, 0} {
		if got := Of(g, loose, b); got != want {
			t.Errorf("at %d: %d, want %d", b, got, want)
		}
	}
	if !loose.May(7) || !Club(loose, 7) {
		t.Error("the end is no break after a club line")
	}
	first := vlist.New([]api.Item{pen(50), line(2)})
	if got := Of(g, first, 0); got != 0 || !Widow(first, 0) {
		t.Errorf("at 0: %d", got)
	}
	if got := Of(g, vlist.New([]api.Item{line(1), glue()}), 1); got != 7 {
		t.Errorf("with nothing after the break: %d", got)
	}
	if got := Of(g, vlist.New([]api.Item{{K: 7}, pen(3), line(2)}), 1); got != 12 {
		t.Errorf("with no box before the break: %d", got)
	}
}

// P20.2: the chapter's example.
func TestExample(t *testing.T) {
	v := vlist.New([]api.Item{line(1), glue(), line(0), glue(), line(2)})
	g := api.Geom{Club: 7, Widow: 9}
	for b, want := range []int64{0, 7, 0, 9, 0, 0} {
		if got := Of(g, v, b); got != want {
			t.Errorf("at %d: %d, want %d", b, got, want)
		}
	}
}

// P20.3: without an F only penalties count, and only those at which the list may
// break, whatever the Club and the Widow are.
func TestOfWithoutFlags(t *testing.T) {
	for _, l := range lists() {
		for i := range l {
			if l[i].K == 1 {
				l[i].F = 0
			}
		}
		v := vlist.New(l)
		for _, b := range positions(len(l)) {
			want := int64(0)
			if b >= 1 && b < len(l) && l[b].K == 3 && l[b].N > 0 && l[b].N < 10000 {
				want = int64(l[b].N)
			}
			for _, g := range []api.Geom{{}, {Club: 700, Widow: 9000}, {Club: -700, Widow: -9000}} {
				if got := Of(g, v, b); got != want {
					t.Errorf("%v: Of at %d = %d, want %d", l, b, got, want)
				}
			}
		}
	}
}

// P20.1, P20.2, P20.3: a nil list, a plain one and one of no items have no boxes
// and no breaks inside.
func TestEmptyLists(t *testing.T) {
	for _, v := range []*vlist.List{nil, {}, vlist.New(nil), vlist.New([]api.Item{})} {
		for _, b := range positions(0) {
			if Ahead(v, b) != -1 || Behind(v, b) != -1 || Club(v, b) || Widow(v, b) {
				t.Errorf("at %d: %d and %d, %v and %v", b, Ahead(v, b), Behind(v, b), Club(v, b), Widow(v, b))
			}
			for _, g := range geoms() {
				if got := Of(g, v, b); got != 0 {
					t.Errorf("Of at %d = %d", b, got)
				}
			}
		}
	}
}

// P20.1, P20.2: the items, behind the end of their list too, read as before, and
// so do the list of positions and the geometry.
func TestArgumentsAreUnchanged(t *testing.T) {
	room := append(slices.Clone(alphabet()), line(1), line(2))
	before := slices.Clone(room)
	l := room[:len(alphabet())]
	v := vlist.New(l)
	for _, g := range geoms() {
		was := g
		for _, b := range positions(len(l)) {
			expectBoxes(t, v, l, b)
			expectOf(t, g, v, l, b)
		}
		if g != was {
			t.Errorf("the geometry %v reads as %v", was, g)
		}
	}
	if !slices.Equal(room, before) || v.Len() != len(l) {
		t.Errorf("the items read as %v", room)
	}
	for i, x := range l {
		if got, ok := v.At(i); !ok || got != x {
			t.Errorf("the list reads as %v at %d", got, i)
		}
	}
}

// P20.1, P20.2: calls at once, and again in another order, get the same results.
func TestCallsAtOnce(t *testing.T) {
	l := random(rand.New(rand.NewSource(2)))
	v := vlist.New(l)
	var wg sync.WaitGroup
	for range 8 {
		wg.Go(func() {
			for _, b := range slices.Backward(positions(len(l))) {
				expectBoxes(t, v, l, b)
				expectOf(t, api.Geom{Club: 7, Widow: 9}, v, l, b)
			}
		})
	}
	wg.Wait()
}
