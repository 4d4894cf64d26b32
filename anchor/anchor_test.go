package anchor

import (
	"math"
	"math/rand"
	"slices"
	"sync"
	"testing"

	"tympan/api"
)

// The items by their kinds, as the document numbers them.
func note(n int) api.Item  { return api.Item{K: 5, N: n} }
func float(n int) api.Item { return api.Item{K: 6, N: n} }
func barrier() api.Item    { return api.Item{K: 7} }

// floats are of each class and of classes that do not exist. The other fields of
// some are not valid, which must not count.
func floats() []api.Float {
	return []api.Float{
		{C: 0, H: 1, Where: 1}, {C: 1, H: 2, Where: 2}, {C: 2, H: 3, Where: 3}, {C: -1, H: 1, Where: 1},
		{C: 3, H: 1, Where: 1}, {C: math.MinInt, H: 1}, {C: math.MaxInt, H: 1}, {C: 1, H: -1, Where: 7}, {C: 2},
	}
}

// sample is one item of each kind, and of kinds that do not exist. The N of all
// of them are those of floats.
func sample() []api.Item {
	return []api.Item{
		{K: 1, H: 3, F: 1}, {K: 2, H: 1, N: 1}, {K: 3, N: 2}, {K: 4, N: 1}, note(2), float(1), {K: 7, N: 2},
		{K: 0, N: 1}, {K: 8, N: 1}, {K: -1, N: 2}, {K: math.MaxInt, N: 1},
	}
}

// alphabet is sample with anchors of the first floats, of floats of no class, of
// the last float, of the first that is none and of a number below 0.
func alphabet() []api.Item {
	l := append(sample(), note(-1), note(0), note(511), note(512))
	for _, n := range []int{-1, 0, 2, 3, 4, 8, 9} {
		l = append(l, float(n))
	}
	return l
}

// numbers are those of floats, and those that no float has.
func numbers() []int {
	n := []int{math.MinInt, -2, -1, 255, 256, math.MaxInt}
	for i := range len(floats()) + 2 {
		n = append(n, i)
	}
	return n
}

// positions are those of a list of n items, some on both sides and some far from
// it, in order.
func positions(n int) []int {
	p := []int{math.MinInt, math.MinInt + 1, -1 << 32}
	for b := -2; b <= n+2; b++ {
		p = append(p, b)
	}
	return append(p, 1<<32, math.MaxInt-1, math.MaxInt)
}

// lists are all lists of up to three items of the alphabet, long ones of one
// item, and some at random.
func lists() [][]api.Item {
	all := [][]api.Item{nil, {}, sample(), slices.Repeat(sample(), 2), alphabet()}
	for _, a := range alphabet() {
		all = append(all, []api.Item{a}, slices.Repeat([]api.Item{a}, 6))
		for _, b := range alphabet() {
			all = append(all, []api.Item{a, b})
			for _, c := range alphabet() {
				all = append(all, []api.Item{a, b, c})
			}
		}
	}
	r := rand.New(rand.NewSource(21))
	for range 200 {
		all = append(all, random(r))
	}
	return all
}

// random is a list with many anchors among a few barriers.
func random(r *rand.Rand) []api.Item {
	l := make([]api.Item, r.Intn(25))
	for i := range l {
		l[i] = alphabet()[r.Intn(len(alphabet()))]
		if r.Intn(2) == 0 {
			l[i] = []api.Item{float(0), float(2), note(7), barrier()}[r.Intn(4)]
		}
	}
	return l
}

// The definitions of the chapter, as the text has them.

func between(l []api.Item, k, a, b int) []int {
	var numbers []int
	for i, x := range l {
		if x.K == k && i >= a && i < b {
			numbers = append(numbers, x.N)
		}
	}
	return numbers
}

// ahead counts the float at each anchor before n that also comes before fits.
func ahead(l []api.Item, floats []api.Float, n int, fits func(i int) bool) [3]int {
	var counts [3]int
	for i, x := range l {
		if x.K != 6 || i >= n || !fits(i) {
			continue
		}
		if x.N >= 0 && x.N < len(floats) && floats[x.N].C >= 0 && floats[x.N].C <= 2 {
			counts[floats[x.N].C]++
		}
	}
	return counts
}

func always(int) bool { return true }

// due counts the anchors behind which there is a barrier before n.
func due(l []api.Item, floats []api.Float, n int) [3]int {
	return ahead(l, floats, n, func(i int) bool {
		for j := i + 1; j < len(l) && j < n; j++ {
			if l[j].K == 7 {
				return true
			}
		}
		return false
	})
}

// expectNumbers holds what is told about a range against what is required.
func expectNumbers(t *testing.T, m *Map, l []api.Item, a, b int) {
	t.Helper()
	if got, want := m.Notes(a, b), between(l, 5, a, b); !slices.Equal(got, want) {
		t.Errorf("%v: Notes from %d to %d = %v, want %v", l, a, b, got, want)
	}
	if got, want := m.Floats(a, b), between(l, 6, a, b); !slices.Equal(got, want) {
		t.Errorf("%v: Floats from %d to %d = %v, want %v", l, a, b, got, want)
	}
}

// expectCounts holds what is told about a position against what is required.
func expectCounts(t *testing.T, m *Map, l []api.Item, floats []api.Float, n int) {
	t.Helper()
	if got, want := m.Begun(n), len(between(l, 5, math.MinInt, n)); got != want {
		t.Errorf("%v: Begun at %d = %d, want %d", l, n, got, want)
	}
	if got, want := m.Ahead(n), ahead(l, floats, n, always); got != want {
		t.Errorf("%v: Ahead at %d = %v, want %v", l, n, got, want)
	}
	if got, want := m.Due(n), due(l, floats, n); got != want {
		t.Errorf("%v: Due at %d = %v, want %v", l, n, got, want)
	}
}

// expectAll holds everything that m tells against what is required.
func expectAll(t *testing.T, m *Map, l []api.Item, floats []api.Float) {
	t.Helper()
	for _, a := range positions(len(l)) {
		expectCounts(t, m, l, floats, a)
		for _, b := range positions(len(l)) {
			expectNumbers(t, m, l, a, b)
		}
	}
}

// P21.1: the numbers in every range in and around lists of each kind of item.
func TestNumbersInEveryRange(t *testing.T) {
	for _, l := range lists() {
		m := New(l, floats())
		for _, a := range positions(len(l)) {
			for _, b := range positions(len(l)) {
				expectNumbers(t, m, l, a, b)
			}
		}
	}
}

// P21.1: written out for one list, with numbers below 0, that occur twice, that
// are out of order and that no note or float has.
func TestNumbersByHand(t *testing.T) {
	l := []api.Item{note(5), float(3), note(-1), {K: 1, N: 8}, float(-2), note(5), float(3), note(1 << 40), barrier(), float(0)}
	rows := []struct {
		a, b          int
		notes, floats []int
	}{
		{0, 10, []int{5, -1, 5, 1 << 40}, []int{3, -2, 3, 0}},
		{math.MinInt, math.MaxInt, []int{5, -1, 5, 1 << 40}, []int{3, -2, 3, 0}},
		{-1, 11, []int{5, -1, 5, 1 << 40}, []int{3, -2, 3, 0}},
		{0, 9, []int{5, -1, 5, 1 << 40}, []int{3, -2, 3}},
		{1, 7, []int{-1, 5}, []int{3, -2, 3}},
		{2, 6, []int{-1, 5}, []int{-2}},
		{0, 1, []int{5}, nil},
		{1, 2, nil, []int{3}},
		{3, 4, nil, nil},
		{8, 9, nil, nil},
		{9, 10, nil, []int{0}},
		{9, math.MaxInt, nil, []int{0}},
		{10, 11, nil, nil},
		{10, math.MaxInt, nil, nil},
		{11, 12, nil, nil},
		{0, 0, nil, nil},
		{0, -1, nil, nil},
		{5, 5, nil, nil},
		{5, 0, nil, nil},
		{6, 5, nil, nil},
		{10, 0, nil, nil},
		{math.MinInt, 0, nil, nil},
		{math.MinInt, 1, []int{5}, nil},
		{math.MinInt, math.MinInt, nil, nil},
		{math.MaxInt, math.MaxInt, nil, nil},
		{math.MaxInt, math.MinInt, nil, nil},
	}
	for _, floats := range [][]api.Float{nil, floats()} {
		m := New(l, floats)
		for _, r := range rows {
			if got := m.Notes(r.a, r.b); !slices.Equal(got, r.notes) {
				t.Errorf("Notes from %d to %d = %v, want %v", r.a, r.b, got, r.notes)
			}
			if got := m.Floats(r.a, r.b); !slices.Equal(got, r.floats) {
				t.Errorf("Floats from %d to %d = %v, want %v", r.a, r.b, got, r.floats)
			}
		}
	}
}

// P21.2: the counts at every position in and around lists of each kind of item,
// with floats and without.
func TestCountsAtEveryPosition(t *testing.T) {
	for _, l := range lists() {
		for _, floats := range [][]api.Float{nil, floats()[:1], floats()} {
			m := New(l, floats)
			for _, n := range positions(len(l)) {
				expectCounts(t, m, l, floats, n)
			}
		}
	}
}

// P21.2: every anchor of a note counts as begun behind it, whatever its number
// is, and anchors of floats do not.
func TestBegunByHand(t *testing.T) {
	m := New([]api.Item{note(0), float(0), note(0), {K: 1, N: 3}, note(-7), note(math.MaxInt), barrier()}, floats())
	for n, want := range []int{0, 1, 1, 2, 2, 3, 4, 4, 4} {
		if got := m.Begun(n); got != want {
			t.Errorf("Begun at %d = %d, want %d", n, got, want)
		}
	}
	for n, want := range map[int]int{math.MinInt: 0, -1: 0, 99: 4, math.MaxInt: 4} {
		if got := m.Begun(n); got != want {
			t.Errorf("Begun at %d = %d, want %d", n, got, want)
		}
	}
}

// P21.2: a float counts in its class if it exists and has one.
func TestClasses(t *testing.T) {
	want := map[int][3]int{0: {1, 0, 0}, 1: {0, 1, 0}, 2: {0, 0, 1}, 7: {0, 1, 0}, 8: {0, 0, 1}}
	for _, n := range numbers() {
		m := New([]api.Item{float(n), barrier()}, floats())
		if m.Ahead(0) != [3]int{} || m.Ahead(1) != want[n] || m.Due(1) != [3]int{} || m.Due(2) != want[n] {
			t.Errorf("float %d: Ahead %v, Due %v, want %v", n, m.Ahead(1), m.Due(2), want[n])
		}
		bare := New([]api.Item{float(n), barrier()}, nil)
		if bare.Ahead(1) != [3]int{} || bare.Due(2) != [3]int{} {
			t.Errorf("no float %d: Ahead %v, Due %v", n, bare.Ahead(1), bare.Due(2))
		}
	}
	for c := -3; c <= 6; c++ {
		var want [3]int
		if c >= 0 && c <= 2 {
			want[c] = 1
		}
		if got := New([]api.Item{float(0)}, []api.Float{{C: c, H: 1, Where: 3}}).Ahead(1); got != want {
			t.Errorf("class %d: %v, want %v", c, got, want)
		}
	}
}

// P21.2: the floats up to the last one count, and the first that is none does
// not.
func TestLastFloat(t *testing.T) {
	all := floats()
	for k := range len(all) + 1 {
		m := New([]api.Item{float(k - 1), float(k), float(k + 1)}, all[:k:k])
		want := ahead([]api.Item{float(k - 1)}, all, 1, always)
		if got := m.Ahead(3); got != want {
			t.Errorf("of %d floats: %v, want %v", k, got, want)
		}
	}
}

// P21.2: each anchor of a float counts, also those of one float that are side by
// side or out of order.
func TestFloatsThatAreAnchoredSeveralTimes(t *testing.T) {
	m := New([]api.Item{float(2), float(0), float(0), barrier(), float(2), float(0), float(4), float(9), barrier(), float(1)}, floats())
	rows := [][2][3]int{
		{}, {{0, 0, 1}}, {{1, 0, 1}}, {{2, 0, 1}}, {{2, 0, 1}, {2, 0, 1}}, {{2, 0, 2}, {2, 0, 1}}, {{3, 0, 2}, {2, 0, 1}},
		{{3, 0, 2}, {2, 0, 1}}, {{3, 0, 2}, {2, 0, 1}}, {{3, 0, 2}, {3, 0, 2}}, {{3, 1, 2}, {3, 0, 2}}, {{3, 1, 2}, {3, 0, 2}},
	}
	for n, want := range rows {
		if m.Ahead(n) != want[0] || m.Due(n) != want[1] {
			t.Errorf("at %d: %v and %v, want %v", n, m.Ahead(n), m.Due(n), want)
		}
	}
	many := New(slices.Repeat([]api.Item{float(1)}, 4096), floats())
	for _, n := range []int{-1, 0, 1, 2, 2048, 4095, 4096} {
		if got := many.Ahead(n); got != [3]int{0, max(n, 0), 0} {
			t.Errorf("at %d of many: %v", n, got)
		}
	}
	if got := many.Ahead(math.MaxInt); got != [3]int{0, 4096, 0} {
		t.Errorf("of many: %v", got)
	}
}

// P21.2: a float is due behind the first barrier after its anchor, not at the
// barrier itself.
func TestBarriers(t *testing.T) {
	box := api.Item{K: 1, H: 3}
	rows := []struct {
		l   []api.Item
		due []int // of the only float, at each position and one beyond the end
	}{
		{[]api.Item{float(1), box}, []int{0, 0, 0, 0}},
		{[]api.Item{barrier(), float(1)}, []int{0, 0, 0, 0}},
		{[]api.Item{float(1), barrier()}, []int{0, 0, 1, 1}},
		{[]api.Item{float(1), box, barrier()}, []int{0, 0, 0, 1, 1}},
		{[]api.Item{barrier(), float(1), barrier()}, []int{0, 0, 0, 1, 1}},
		{[]api.Item{barrier(), barrier(), float(1), box}, []int{0, 0, 0, 0, 0, 0}},
		{[]api.Item{float(1), barrier(), barrier(), box}, []int{0, 0, 1, 1, 1, 1}},
		{[]api.Item{float(1), barrier(), float(1), barrier()}, []int{0, 0, 1, 1, 2, 2}},
		{[]api.Item{float(1), barrier(), float(1), box}, []int{0, 0, 1, 1, 1, 1}},
		{[]api.Item{float(1), barrier(), barrier(), float(1), barrier()}, []int{0, 0, 1, 1, 1, 2, 2}},
		{[]api.Item{float(1), float(1), barrier()}, []int{0, 0, 0, 2, 2}},
		{[]api.Item{note(1), barrier(), float(1)}, []int{0, 0, 0, 0, 0}},
	}
	for _, r := range rows {
		m := New(r.l, floats())
		for n, want := range r.due {
			if got := m.Due(n); got != [3]int{0, want, 0} {
				t.Errorf("%v: Due at %d = %v, want %d", r.l, n, got, want)
			}
		}
		last := r.due[len(r.due)-1]
		for n, want := range map[int]int{math.MinInt: 0, -1: 0, 99: last, math.MaxInt: last} {
			if got := m.Due(n); got != [3]int{0, want, 0} {
				t.Errorf("%v: Due at %d = %v, want %d", r.l, n, got, want)
			}
		}
	}
}

// P21.2: no item but a barrier makes a float due.
func TestOtherItemsAreNoBarriers(t *testing.T) {
	for _, k := range []int{math.MinInt, -7, -1, 0, 1, 2, 3, 4, 5, 6, 8, 9, math.MaxInt} {
		m := New([]api.Item{float(0), {K: k, N: 1}, {K: 1}}, floats())
		if got := m.Due(3); got != [3]int{} {
			t.Errorf("kind %d: %v", k, got)
		}
	}
	if got := New([]api.Item{float(0), {K: 7, H: 5, N: -3}}, floats()).Due(2); got != [3]int{1, 0, 0} {
		t.Errorf("a barrier with other fields: %v", got)
	}
}

// P21.2: the chapter's example.
func TestExample(t *testing.T) {
	m := New([]api.Item{float(0), barrier(), float(1)}, []api.Float{{H: 1, Where: 1}, {H: 1, Where: 1}})
	for n, want := range [][2][3]int{{}, {{1, 0, 0}}, {{1, 0, 0}, {1, 0, 0}}, {{2, 0, 0}, {1, 0, 0}}} {
		if m.Ahead(n) != want[0] || m.Due(n) != want[1] {
			t.Errorf("at %d: %v and %v, want %v", n, m.Ahead(n), m.Due(n), want)
		}
	}
}

// P21.3: no more floats are due than are ahead, and none of the counts decreases.
func TestCountsDoNotDecrease(t *testing.T) {
	for _, l := range lists() {
		m := New(l, floats())
		var begun int
		var ahead, due [3]int
		for _, n := range positions(len(l)) {
			for c := range 3 {
				if m.Due(n)[c] > m.Ahead(n)[c] {
					t.Errorf("%v: at %d %v of %v are due", l, n, m.Due(n), m.Ahead(n))
				}
				if m.Ahead(n)[c] < ahead[c] || m.Due(n)[c] < due[c] {
					t.Errorf("%v: at %d %v and %v behind %v and %v", l, n, m.Ahead(n), m.Due(n), ahead, due)
				}
			}
			if m.Begun(n) < begun {
				t.Errorf("%v: at %d %d behind %d", l, n, m.Begun(n), begun)
			}
			begun, ahead, due = m.Begun(n), m.Ahead(n), m.Due(n)
		}
	}
}

// P21.1, P21.2: a nil map, a plain one and those of no items have no anchors.
func TestEmptyMaps(t *testing.T) {
	maps := []*Map{nil, {}}
	for _, floats := range [][]api.Float{nil, {}, floats()} {
		maps = append(maps, New(nil, floats), New([]api.Item{}, floats))
	}
	for _, m := range maps {
		for _, a := range positions(0) {
			if m.Begun(a) != 0 || m.Ahead(a) != [3]int{} || m.Due(a) != [3]int{} {
				t.Errorf("at %d: %d, %v and %v", a, m.Begun(a), m.Ahead(a), m.Due(a))
			}
			for _, b := range positions(0) {
				if len(m.Notes(a, b)) != 0 || len(m.Floats(a, b)) != 0 {
					t.Errorf("from %d to %d: %v and %v", a, b, m.Notes(a, b), m.Floats(a, b))
				}
			}
		}
	}
}

// P21.1, P21.2: without floats there are anchors, but none of them counts.
func TestWithoutFloats(t *testing.T) {
	l := []api.Item{float(0), note(1), barrier(), float(1)}
	for _, floats := range [][]api.Float{nil, {}} {
		m := New(l, floats)
		expectAll(t, m, l, nil)
		if !slices.Equal(m.Floats(0, 4), []int{0, 1}) || m.Begun(4) != 1 || m.Ahead(4) != [3]int{} || m.Due(4) != [3]int{} {
			t.Errorf("%v, %d, %v and %v", m.Floats(0, 4), m.Begun(4), m.Ahead(4), m.Due(4))
		}
	}
}

// P21.1, P21.2: the items and the floats, behind the ends of their lists too, read
// as before.
func TestArgumentsAreUnchanged(t *testing.T) {
	items := append(slices.Clone(alphabet()), float(1), barrier())
	figures := append(floats(), api.Float{C: 1, H: 4})
	itemsBefore, figuresBefore := slices.Clone(items), slices.Clone(figures)
	l := items[:len(alphabet())]
	expectAll(t, New(l, figures[:len(floats())]), l, floats())
	if !slices.Equal(items, itemsBefore) {
		t.Errorf("the items read as %v", items)
	}
	if !slices.Equal(figures, figuresBefore) {
		t.Errorf("the floats read as %v", figures)
	}
}

// P21.1, P21.2: a map keeps what was passed when it was created.
func TestMapKeepsWhatWasPassed(t *testing.T) {
	l := slices.Repeat(alphabet(), 2)
	passed, figures := slices.Clone(l), floats()
	m := New(passed, figures)
	for i := range passed {
		passed[i] = float(1)
	}
	for i := range figures {
		figures[i] = api.Float{C: 2, H: 1}
	}
	expectAll(t, m, l, floats())
}

// P21.1, P21.2: what is done with a result, also behind its end, changes no later
// one.
func TestResultsAreTheirOwn(t *testing.T) {
	l := slices.Repeat([]api.Item{note(3), float(0), barrier(), note(4), float(2)}, 3)
	m := New(l, floats())
	for _, list := range [][]int{m.Notes(0, 9), m.Floats(0, 9), m.Notes(3, 4), m.Floats(1, 2)} {
		for i := range list {
			list[i] = -9
		}
		_ = append(list, 77, 78)
	}
	for _, counts := range [][3]int{m.Ahead(9), m.Due(9)} {
		counts[0], counts[2] = 99, 99
	}
	expectAll(t, m, l, floats())
}

// P21.1, P21.2: calls at once, and again in another order, get the same results.
func TestCallsAtOnce(t *testing.T) {
	l := slices.Repeat(alphabet(), 2)
	m := New(l, floats())
	var wg sync.WaitGroup
	for range 8 {
		wg.Go(func() {
			for _, n := range slices.Backward(positions(len(l))) {
				expectCounts(t, m, l, floats(), n)
				expectNumbers(t, m, l, n, len(l))
			}
		})
	}
	wg.Wait()
}
