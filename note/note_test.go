package note

import (
	"math"
	"math/big"
	"slices"
	"testing"

	"tympan/api"
)

const (
	least = api.Sp(math.MinInt64)
	most  = api.Sp(math.MaxInt64)
	// dim is 2^30 - 1, as the document's table of limits has it.
	dim = api.Sp(1073741823)
	// top is 2^50, beyond which no height is told.
	top = api.Sp(1125899906842624)
)

// evenly returns a note of count lines of the height 5, with pens penalties of
// 7 between them.
func evenly(count, pens int) api.Note {
	n := api.Note{Lines: make([]api.Sp, count), Pens: make([]int, pens)}
	for i := range n.Lines {
		n.Lines[i] = 5
	}
	for i := range n.Pens {
		n.Pens[i] = 7
	}
	return n
}

// heights returns a note of these lines, without penalties.
func heights(l ...api.Sp) api.Note { return api.Note{Lines: l} }

// clone returns n in new memory.
func clone(n api.Note) api.Note {
	return api.Note{Lines: slices.Clone(n.Lines), Pens: slices.Clone(n.Pens)}
}

// notes are of every kind, valid or not: without lines, with penalties below, at
// and above 10000, and with too few and too many of them.
func notes() []api.Note {
	five := []api.Sp{3, 1, 4, 1, 5}
	return []api.Note{
		{},
		{Lines: []api.Sp{}, Pens: []int{}},
		{Pens: []int{0, 5, 10000}},
		{Lines: []api.Sp{3}},
		{Lines: []api.Sp{3}, Pens: []int{0}},
		{Lines: []api.Sp{3, 4, 5}, Pens: []int{0, 10000}},
		{Lines: []api.Sp{3, 4, 5}, Pens: []int{10000, 0}},
		{Lines: five, Pens: []int{0, 1, 9999, 50}},
		{Lines: five, Pens: []int{10000, 10000, 10000, 10000}},
		{Lines: five, Pens: []int{9999, 10000, 10001, 9998}},
		{Lines: five, Pens: []int{-1, math.MinInt, math.MaxInt, -10000}},
		{Lines: five},
		{Lines: five, Pens: []int{6}},
		{Lines: five, Pens: []int{10000, 8, 2}},
		{Lines: five, Pens: []int{6, 0, 10000, 3, 2}},
		{Lines: five, Pens: []int{1, 2, 3, 4, 5, 6, 7, 10000}},
		{Lines: []api.Sp{least, 0, most, -1}, Pens: []int{4, 10000, 2}},
		evenly(64, 63),
		evenly(70, 3),
		evenly(3, 70),
	}
}

// indices are those of n, and others on both sides.
func indices(n api.Note) []int {
	l := []int{math.MinInt, math.MinInt + 1, math.MinInt32, -10000}
	for i := -3; i <= max(len(n.Lines), len(n.Pens))+3; i++ {
		l = append(l, i)
	}
	return append(l, math.MaxInt32, math.MaxInt-1, math.MaxInt)
}

// mayBeSplit and mayEnd are the text of the chapter's definitions.
func mayBeSplit(n api.Note, at int) bool {
	if at < 1 || at >= len(n.Lines) {
		return false
	}
	for i, p := range n.Pens {
		if i == at-1 {
			return p < 10000
		}
	}
	return false
}

func mayEnd(n api.Note, at int) bool { return mayBeSplit(n, at) || at == len(n.Lines) }

// ends are all indices before which n may end and that come after from. The
// definitions admit none that is negative, or that is beyond the lines.
func ends(n api.Note, from int) []int {
	var l []int
	for at := 0; at <= len(n.Lines); at++ {
		if at > from && mayEnd(n, at) {
			l = append(l, at)
		}
	}
	return l
}

// tall is the text of High in exact numbers.
func tall(n api.Note, from, to int) api.Sp {
	sum := new(big.Int)
	for i, h := range n.Lines {
		if i >= from && i < to && h > 0 {
			sum.Add(sum, big.NewInt(int64(h)))
		}
	}
	if sum.Cmp(big.NewInt(int64(top))) > 0 {
		return top
	}
	return api.Sp(sum.Int64())
}

// expect holds Check against a verdict.
func expect(t *testing.T, n api.Note, want api.Errno) {
	t.Helper()
	if got := Check(n); got != want {
		t.Errorf("Check(%v) = %d, want %d", n, got, want)
	}
}

// P11.1, P11.2: the chapter's example.
func TestExample(t *testing.T) {
	n := api.Note{Lines: []api.Sp{3, 4, 5}, Pens: []int{0, 10000}}
	expect(t, n, api.OK)
	for at := -2; at <= 6; at++ {
		if got, want := May(n, at), at == 1 || at == 3; got != want {
			t.Errorf("May(%d) = %v", at, got)
		}
	}
	if got := Stops(n, 0); !slices.Equal(got, []int{1, 3}) {
		t.Errorf("Stops = %v", got)
	}
	if First(n, 0) != 1 || First(n, 1) != 3 || First(n, 2) != 3 || First(n, 3) != -1 {
		t.Error("First")
	}
	if High(n, 0, 3) != 12 || High(n, 0, 1) != 3 || High(n, 1, 3) != 9 {
		t.Error("High")
	}
}

// P11.1: a valid note has 1 to 64 lines.
func TestCheckLines(t *testing.T) {
	for count := range 130 {
		want := api.ErrNote
		if count >= 1 && count <= 64 {
			want = api.OK
		}
		expect(t, evenly(count, max(count-1, 0)), want)
	}
	expect(t, api.Note{}, api.ErrNote)
	expect(t, api.Note{Lines: []api.Sp{}, Pens: []int{}}, api.ErrNote)
	expect(t, api.Note{Lines: []api.Sp{1}, Pens: []int{}}, api.OK)
}

// P11.1: the height of a line is between 1 and MaxDim, wherever the line is.
func TestCheckHeights(t *testing.T) {
	for _, h := range []api.Sp{least, least + 1, -dim, -2, -1, 0, 1, 2, 77, dim - 1, dim, dim + 1, dim + 2, 1 << 32, 1 << 50, most - 1, most} {
		want := api.ErrNote
		if h >= 1 && h <= dim {
			want = api.OK
		}
		expect(t, heights(h), want)
		for _, count := range []int{2, 3, 64} {
			all := evenly(count, count-1)
			for at := range count {
				n := evenly(count, count-1)
				n.Lines[at] = h
				all.Lines[at] = h
				expect(t, n, want)
			}
			expect(t, all, want)
		}
	}
}

// P11.1: there is one penalty less than lines.
func TestCheckPenaltyCount(t *testing.T) {
	for _, count := range []int{1, 2, 3, 32, 63, 64} {
		for pens := range 2*count + 3 {
			want := api.ErrNote
			if pens == count-1 {
				want = api.OK
			}
			expect(t, evenly(count, pens), want)
		}
	}
	expect(t, api.Note{Pens: []int{0}}, api.ErrNote)
}

// P11.1: a penalty is between 0 and 10000, wherever it is.
func TestCheckPenalties(t *testing.T) {
	for _, p := range []int{math.MinInt, -10001, -10000, -9999, -2, -1, 0, 1, 50, 9999, 10000, 10001, 10002, 1 << 20, 1 << 32, math.MaxInt} {
		want := api.ErrNote
		if p >= 0 && p <= 10000 {
			want = api.OK
		}
		for _, count := range []int{2, 3, 64} {
			all := evenly(count, count-1)
			for at := range count - 1 {
				n := evenly(count, count-1)
				n.Pens[at] = p
				all.Pens[at] = p
				expect(t, n, want)
			}
			expect(t, all, want)
		}
	}
}

// P11.1: several faults are one error.
func TestCheckSeveralFaults(t *testing.T) {
	expect(t, api.Note{Lines: []api.Sp{0, most}, Pens: []int{-1, 10001}}, api.ErrNote)
	expect(t, api.Note{Lines: make([]api.Sp, 65), Pens: make([]int, 65)}, api.ErrNote)
}

// P11.1: the heights of pieces at the beginning, in the middle and at the end,
// and of nothing.
func TestHighPieces(t *testing.T) {
	n := heights(1, 20, 300, 4000, 50000)
	for _, c := range []struct {
		from, to int
		want     api.Sp
	}{
		{0, 5, 54321}, {0, 1, 1}, {0, 3, 321}, {1, 4, 4320}, {2, 3, 300}, {3, 5, 54000}, {4, 5, 50000},
		{-1, 2, 21}, {math.MinInt, 2, 21}, {3, 6, 54000}, {3, math.MaxInt, 54000}, {math.MinInt, math.MaxInt, 54321},
		{0, 0, 0}, {2, 2, 0}, {5, 5, 0}, {3, 2, 0}, {5, 0, 0}, {5, 6, 0}, {6, 9, 0}, {-3, 0, 0}, {-3, -1, 0}, {0, -1, 0},
		{math.MaxInt, math.MinInt, 0}, {math.MaxInt, math.MaxInt, 0}, {math.MinInt, math.MinInt, 0},
	} {
		if got := High(n, c.from, c.to); got != c.want {
			t.Errorf("High(%d, %d) = %d, want %d", c.from, c.to, got, c.want)
		}
	}
}

// P11.1: negative heights count as 0, and so do sums of nothing else.
func TestHighNegative(t *testing.T) {
	for _, c := range []struct {
		n    api.Note
		want api.Sp
	}{
		{api.Note{}, 0}, {heights(), 0}, {heights(0), 0}, {heights(-1), 0}, {heights(least), 0},
		{heights(-4, 5), 5}, {heights(5, -4), 5}, {heights(5, -4, 6), 11}, {heights(least, least, 1), 1},
		{heights(least, most), top}, {heights(most, least), top}, {heights(-1, -2, -3), 0},
	} {
		if got := High(c.n, 0, 9); got != c.want {
			t.Errorf("High of %v = %d, want %d", c.n.Lines, got, c.want)
		}
	}
}

// P11.1: sums at, just below and beyond 2^50, also where they wrap round.
func TestHighBound(t *testing.T) {
	for _, c := range []struct {
		n    api.Note
		want api.Sp
	}{
		{heights(top - 1), top - 1}, {heights(top), top}, {heights(top + 1), top}, {heights(most), top},
		{heights(top-2, 1), top - 1}, {heights(1, top-2), top - 1}, {heights(top-1, 1), top}, {heights(1, top-1), top},
		{heights(top, 1), top}, {heights(1, top), top}, {heights(top, 0), top}, {heights(top-1, 2), top}, {heights(2, top-1), top},
		{heights(most, most), top}, {heights(most, 1), top}, {heights(1, most), top}, {heights(most, most, most), top},
		{heights(1<<62, 1<<62), top}, {heights(1<<62, 1<<62, 1<<62, 1<<62), top}, {heights(top, -1), top}, {heights(top+5, -6), top},
	} {
		if got := High(c.n, 0, len(c.n.Lines)); got != c.want {
			t.Errorf("High of %v = %d, want %d", c.n.Lines, got, c.want)
		}
	}
}

// P11.1: High returns what the text says, for every piece of every note.
func TestHighByText(t *testing.T) {
	all := append(notes(), heights(most, top-1, 1, 0, -1, most, dim, 2), heights(top-3, 1, 1, 1, 1))
	for _, n := range all {
		for _, from := range indices(n) {
			for _, to := range indices(n) {
				if got, want := High(n, from, to), tall(n, from, to); got != want {
					t.Errorf("High(%v, %d, %d) = %d, want %d", n.Lines, from, to, got, want)
				}
			}
		}
	}
}

// P11.1: a valid note of the greatest height is told exactly.
func TestHighGreatest(t *testing.T) {
	n := evenly(64, 63)
	for i := range n.Lines {
		n.Lines[i] = dim
	}
	expect(t, n, api.OK)
	if got := High(n, 0, 64); got != 64*dim {
		t.Errorf("High = %d, want %d", got, 64*dim)
	}
}

// P11.1: notes are the same if all lines and all penalties are, and only then.
func TestSame(t *testing.T) {
	n := api.Note{Lines: []api.Sp{3, 4, 5}, Pens: []int{1, 2}}
	for _, c := range []struct {
		b    api.Note
		want bool
	}{
		{clone(n), true},
		{api.Note{Lines: []api.Sp{6, 4, 5}, Pens: []int{1, 2}}, false},
		{api.Note{Lines: []api.Sp{3, 6, 5}, Pens: []int{1, 2}}, false},
		{api.Note{Lines: []api.Sp{3, 4, 6}, Pens: []int{1, 2}}, false},
		{api.Note{Lines: []api.Sp{4, 3, 5}, Pens: []int{1, 2}}, false},
		{api.Note{Lines: []api.Sp{3, 4, 5}, Pens: []int{0, 2}}, false},
		{api.Note{Lines: []api.Sp{3, 4, 5}, Pens: []int{1, 3}}, false},
		{api.Note{Lines: []api.Sp{3, 4, 5}, Pens: []int{2, 1}}, false},
		{api.Note{Lines: []api.Sp{3, 4}, Pens: []int{1, 2}}, false},
		{api.Note{Lines: []api.Sp{3, 4, 5, 0}, Pens: []int{1, 2}}, false},
		{api.Note{Lines: []api.Sp{3, 4, 5}, Pens: []int{1}}, false},
		{api.Note{Lines: []api.Sp{3, 4, 5}, Pens: []int{1, 2, 0}}, false},
		{api.Note{Lines: []api.Sp{3, 4, 5}}, false},
		{api.Note{Pens: []int{1, 2}}, false},
		{api.Note{}, false},
	} {
		if Same(n, c.b) != c.want || Same(c.b, n) != c.want {
			t.Errorf("Same(%v, %v) is not %v", n, c.b, c.want)
		}
		if !Same(c.b, clone(c.b)) {
			t.Errorf("%v is not the same as itself", c.b)
		}
	}
}

// P11.1: nil and empty lists are the same, in lines and in penalties.
func TestSameEmpty(t *testing.T) {
	empty := []api.Note{{}, {Lines: []api.Sp{}}, {Pens: []int{}}, {Lines: []api.Sp{}, Pens: []int{}}}
	one := []api.Note{{Lines: []api.Sp{4}}, {Lines: []api.Sp{4}, Pens: []int{}}}
	bare := []api.Note{{Pens: []int{4}}, {Lines: []api.Sp{}, Pens: []int{4}}}
	groups := [][]api.Note{empty, one, bare}
	for i, g := range groups {
		for j, h := range groups {
			for _, a := range g {
				for _, b := range h {
					if Same(a, b) != (i == j) {
						t.Errorf("Same(%#v, %#v) is not %v", a, b, i == j)
					}
				}
			}
		}
	}
}

// P11.2: where a note may be split, and the penalty there; a penalty is told
// only for a split that is allowed.
func TestMayPen(t *testing.T) {
	n := api.Note{Lines: []api.Sp{3, 4, 5, 6, 7, 8}, Pens: []int{9999, 10000, 10001, 0, -3}}
	may := []bool{false, true, false, false, true, true, true, false, false}
	pen := []int{0, 9999, 0, 0, 0, -3, 0, 0, 0}
	for at := range may {
		if May(n, at) != may[at] || Pen(n, at) != pen[at] {
			t.Errorf("at %d: %v and %d, want %v and %d", at, May(n, at), Pen(n, at), may[at], pen[at])
		}
	}
}

// P11.2: a note that lacks penalties is not split there, and penalties beyond
// the lines allow nothing.
func TestMayPenMiscounted(t *testing.T) {
	few := api.Note{Lines: []api.Sp{1, 1, 1, 1}, Pens: []int{5}}
	many := api.Note{Lines: []api.Sp{1, 1}, Pens: []int{5, 6, 7}}
	for at, want := range []int{0, 5, 0, 0, 0, 0} {
		if Pen(few, at) != want || May(few, at) != (at == 1 || at == 4) {
			t.Errorf("too few penalties, at %d: %v and %d", at, May(few, at), Pen(few, at))
		}
		if Pen(many, at) != want || May(many, at) != (at == 1 || at == 2) {
			t.Errorf("too many penalties, at %d: %v and %d", at, May(many, at), Pen(many, at))
		}
	}
}

// P11.2: May and Pen return what the text says, at every index of every note.
func TestMayPenByText(t *testing.T) {
	for _, n := range notes() {
		for _, at := range indices(n) {
			if got, want := May(n, at), mayEnd(n, at); got != want {
				t.Errorf("May(%v, %d) = %v", n, at, got)
			}
			want := 0
			if mayBeSplit(n, at) {
				want = n.Pens[at-1]
			}
			if got := Pen(n, at); got != want {
				t.Errorf("Pen(%v, %d) = %d, want %d", n, at, got, want)
			}
		}
	}
}

// P11.2: the stops of notes where no split is allowed, and where all are.
func TestStopsNoneAndAll(t *testing.T) {
	none := api.Note{Lines: []api.Sp{1, 1, 1}, Pens: []int{10000, 10000}}
	all := api.Note{Lines: []api.Sp{1, 1, 1}, Pens: []int{0, 9999}}
	for _, c := range []struct {
		n    api.Note
		from int
		want []int
	}{
		{none, -7, []int{3}}, {none, 0, []int{3}}, {none, 1, []int{3}}, {none, 2, []int{3}}, {none, 3, nil}, {none, 4, nil},
		{all, math.MinInt, []int{1, 2, 3}}, {all, -1, []int{1, 2, 3}}, {all, 0, []int{1, 2, 3}}, {all, 1, []int{2, 3}}, {all, 2, []int{3}},
		{all, 3, nil}, {all, math.MaxInt, nil},
		{heights(9), 0, []int{1}}, {heights(9), 1, nil},
	} {
		if got := Stops(c.n, c.from); !slices.Equal(got, c.want) {
			t.Errorf("Stops(%v, %d) = %v, want %v", c.n, c.from, got, c.want)
		}
	}
}

// P11.2: a note without lines may end before 0, the number of its lines, and
// nowhere else; its penalties do not matter.
func TestNoLines(t *testing.T) {
	for _, n := range []api.Note{{}, {Lines: []api.Sp{}}, {Pens: []int{0, 3}}} {
		for _, at := range indices(n) {
			if May(n, at) != (at == 0) || Pen(n, at) != 0 {
				t.Errorf("%v at %d: %v and %d", n, at, May(n, at), Pen(n, at))
			}
			stops, first := Stops(n, at), First(n, at)
			if at < 0 && (!slices.Equal(stops, []int{0}) || first != 0) {
				t.Errorf("%v after %d: %v and %d", n, at, stops, first)
			}
			if at >= 0 && (len(stops) != 0 || first != -1) {
				t.Errorf("%v after %d: %v and %d", n, at, stops, first)
			}
		}
	}
}

// P11.2: Stops and First return what the text says, after every index of every
// note.
func TestStopsFirstByText(t *testing.T) {
	for _, n := range notes() {
		for _, from := range indices(n) {
			want := ends(n, from)
			if got := Stops(n, from); !slices.Equal(got, want) {
				t.Errorf("Stops(%v, %d) = %v, want %v", n, from, got, want)
			}
			first := -1
			if len(want) > 0 {
				first = want[0]
			}
			if got := First(n, from); got != first {
				t.Errorf("First(%v, %d) = %d, want %d", n, from, got, first)
			}
		}
	}
}

// P11.2: the lines of all notes are counted, and penalties are not.
func TestLines(t *testing.T) {
	for _, c := range []struct {
		l    []api.Note
		want int
	}{
		{nil, 0},
		{[]api.Note{}, 0},
		{[]api.Note{{}}, 0},
		{[]api.Note{{Pens: []int{1, 2}}, {}, {Lines: []api.Sp{}}}, 0},
		{[]api.Note{heights(3)}, 1},
		{[]api.Note{evenly(64, 63)}, 64},
		{[]api.Note{evenly(2, 1), evenly(3, 2)}, 5},
		{[]api.Note{{}, evenly(2, 1), {}, evenly(7, 0), evenly(1, 9), {}}, 10},
		{[]api.Note{evenly(70, 3), heights(least, -1, 0)}, 73},
	} {
		if got := Lines(c.l); got != c.want {
			t.Errorf("Lines of %v = %d, want %d", c.l, got, c.want)
		}
	}
	if got := Lines(slices.Repeat([]api.Note{evenly(64, 63)}, 2*api.MaxNotes)); got != 64*1024 {
		t.Errorf("Lines of 1024 notes = %d", got)
	}
}

// P11.3: every valid note may end at its end, its stops lead there, and the
// pieces between them add up to it.
func TestPiecesAddUp(t *testing.T) {
	for count := 1; count <= 64; count++ {
		for turn := range 6 {
			n := evenly(count, count-1)
			for i := range n.Lines {
				n.Lines[i] = 1 + api.Sp(i*i*(turn+1))%dim
			}
			for i := range n.Pens {
				n.Pens[i] = 10000 * min((i+turn)%(turn+1), 1)
			}
			n.Lines[count-1] = dim
			expect(t, n, api.OK)
			checkPieces(t, n)
		}
	}
}

// checkPieces holds a valid note against P11.3.
func checkPieces(t *testing.T, n api.Note) {
	t.Helper()
	count := len(n.Lines)
	stops := Stops(n, 0)
	if !May(n, count) || len(stops) == 0 || stops[len(stops)-1] != count {
		t.Errorf("%v does not end at its end: %v", n, stops)
	}
	sum, from := api.Sp(0), 0
	for _, to := range stops {
		if to <= from {
			t.Errorf("the stops of %v do not increase: %v", n, stops)
		}
		sum += High(n, from, to)
		from = to
	}
	whole := High(n, 0, count)
	if sum != whole {
		t.Errorf("the pieces of %v have the height %d, and not %d", n, sum, whole)
	}
	for at := range count + 1 {
		if High(n, 0, at)+High(n, at, count) != whole {
			t.Errorf("both pieces of %v at %d do not add up", n, at)
		}
	}
}

// P11.1, P11.2, P4: no call changes a note, nor what was returned before.
func TestNothingChanges(t *testing.T) {
	for _, n := range notes() {
		before := clone(n)
		l := []api.Note{n, n}
		Check(n)
		Same(n, before)
		Lines(l)
		for _, at := range indices(n) {
			High(n, at, len(n.Lines))
			High(n, 0, at)
			May(n, at)
			Pen(n, at)
			First(n, at)
			stops := Stops(n, at)
			kept := slices.Clone(stops)
			again := Stops(n, at)
			for i := range again {
				again[i] = -9
			}
			if !slices.Equal(stops, kept) || !slices.Equal(Stops(n, at), kept) {
				t.Errorf("the stops of %v after %d share memory", n, at)
			}
		}
		for _, x := range append(l, n) {
			if !slices.Equal(x.Lines, before.Lines) || !slices.Equal(x.Pens, before.Pens) {
				t.Errorf("%v was changed to %v", before, x)
			}
		}
	}
}
