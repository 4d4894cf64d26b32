package valid

import (
	"math"
	"reflect"
	"slices"
	"testing"

	"tympan/api"
	"tympan/geom"
	"tympan/item"
)

// The limits, as the document's table has them.
const (
	dim      = 1073741823 // 2^30 - 1
	maxItems = 4096
	maxFloat = 256
	maxNotes = 512
	maxCols  = 8
)

// order is the chapter's order of the errors.
func order() []api.Errno {
	return []api.Errno{
		api.ErrItems, api.ErrFloats, api.ErrNotes, api.ErrCols, api.ErrGeom,
		api.ErrItem, api.ErrNote, api.ErrFloat, api.ErrRef, api.ErrTall,
	}
}

// full is a valid job that has everything, with other items between its
// anchors, and without a grid.
func full() api.Job {
	return api.Job{
		G: geom.Plain(2, 100),
		Items: []api.Item{
			item.Box(10, 1), item.Note(0), item.Float(0), item.Glue(3, 1, 0, 1), item.Mark(5),
			item.Float(1), item.Note(1), item.Barrier(), item.Pen(50), item.Note(2), item.Box(9, 2), item.Float(2),
		},
		Notes: []api.Note{
			{Lines: []api.Sp{4, 5}, Pens: []int{30}},
			{Lines: []api.Sp{6}},
			{Lines: []api.Sp{1, 2, 3}, Pens: []int{0, 10000}},
		},
		Floats: []api.Float{{C: 0, H: 100, Where: 1}, {C: 1, H: 5, Where: 2}, {C: 2, H: 60, Where: 3}},
	}
}

// snapped is full on a grid that changes most of its lengths.
func snapped() api.Job {
	j := full()
	j.G.Grid = 7
	j.Floats[0].H = 98
	return j
}

// filled has as many items, floats and notes as there may be.
func filled() api.Job {
	j := api.Job{G: geom.Plain(8, dim)}
	for i := range maxFloat {
		j.Floats = append(j.Floats, api.Float{C: i % 3, H: dim, Where: i % 4})
		j.Items = append(j.Items, item.Float(i))
	}
	for i := range maxNotes {
		j.Notes = append(j.Notes, api.Note{Lines: []api.Sp{dim}})
		j.Items = append(j.Items, item.Note(i))
	}
	for len(j.Items) < maxItems {
		j.Items = append(j.Items, item.Box(dim, 3))
	}
	return j
}

// bare has nothing but a geometry.
func bare() api.Job { return api.Job{G: geom.Plain(1, 1)} }

// valids are makers of valid jobs.
func valids() map[string]func() api.Job {
	return map[string]func() api.Job{
		"full":    full,
		"snapped": snapped,
		"filled":  filled,
		"bare":    bare,
		"empty lists": func() api.Job {
			return api.Job{G: geom.Plain(8, dim), Items: []api.Item{}, Notes: []api.Note{}, Floats: []api.Float{}}
		},
		"only a grid": func() api.Job {
			j := bare()
			j.G.Grid = 1
			return j
		},
		"items alone": func() api.Job {
			return api.Job{G: geom.Plain(1, 5), Items: []api.Item{item.Box(dim, 0), item.Barrier(), item.Pen(-10000)}}
		},
		"notes alone": func() api.Job {
			return api.Job{G: geom.Plain(1, 5), Items: []api.Item{item.Note(0)}, Notes: []api.Note{{Lines: []api.Sp{dim}}}}
		},
		"floats alone": func() api.Job {
			return api.Job{G: geom.Plain(1, 5), Items: []api.Item{item.Float(0)}, Floats: []api.Float{{H: 5}}}
		},
		"all anchors behind one another": func() api.Job {
			j := full()
			j.Items = []api.Item{item.Float(0), item.Float(1), item.Float(2), item.Note(0), item.Note(1), item.Note(2)}
			return j
		},
	}
}

// expect holds Check, and Right, against what is wanted.
func expect(t *testing.T, name string, j api.Job, want api.Errno, at int) {
	t.Helper()
	if e, i := Check(j); e != want || i != at {
		t.Errorf("%s: Check is %d at %d, not %d at %d", name, e, i, want, at)
	}
	if got := Right(j); got != (want == api.OK) {
		t.Errorf("%s: Right is %v", name, got)
	}
}

// turned returns full after all of these changes.
func turned(turns ...func(j *api.Job)) api.Job {
	j := full()
	for _, turn := range turns {
		turn(&j)
	}
	return j
}

// damage is a change of a full job that violates one clause, and leaves other
// clauses as they are, but for later ones.
type damage struct {
	err  api.Errno
	at   int
	turn func(j *api.Job)
}

// damages has one for each clause, in the chapter's order. Each of them names
// the same index whichever later ones are made as well.
func damages() []damage {
	return []damage{
		{api.ErrItems, 0, func(j *api.Job) {
			for len(j.Items) < maxItems+1 {
				j.Items = append(j.Items, item.Box(1, 0))
			}
		}},
		{api.ErrFloats, 0, func(j *api.Job) {
			for len(j.Floats) < maxFloat+1 {
				j.Floats = append(j.Floats, api.Float{H: 1})
			}
		}},
		{api.ErrNotes, 0, func(j *api.Job) {
			for len(j.Notes) < maxNotes+1 {
				j.Notes = append(j.Notes, api.Note{Lines: []api.Sp{1}})
			}
		}},
		{api.ErrCols, 0, func(j *api.Job) { j.G.Cols = 0 }},
		{api.ErrGeom, 0, func(j *api.Job) { j.G.Wide = 0 }},
		{api.ErrItem, 3, func(j *api.Job) { j.Items[3].H = -1 }},
		{api.ErrNote, 2, func(j *api.Job) { j.Notes[2].Pens = nil }},
		{api.ErrFloat, 1, func(j *api.Job) { j.Floats[1].C = 9 }},
		{api.ErrRef, 5, func(j *api.Job) { j.Items[5].N = 2 }},
		{api.ErrTall, 2, func(j *api.Job) { j.Floats[2].H = 101 }},
	}
}

// P15.1: the chapter's example.
func TestExample(t *testing.T) {
	expect(t, "no columns and an invalid item", api.Job{Items: []api.Item{{K: api.KBox, N: 1}}}, api.ErrCols, 0)
}

// P15.1: OK and 0 for valid jobs.
func TestValid(t *testing.T) {
	for name, create := range valids() {
		expect(t, name, create(), api.OK, 0)
	}
}

// P15.1: each set of violated clauses leads to the error of the first of them,
// with the index of that one. A set of one violates no other clause before it.
func TestFirstError(t *testing.T) {
	l := damages()
	for set := 1; set < 1<<len(l); set++ {
		j := full()
		first := len(l)
		for i := len(l) - 1; i >= 0; i-- {
			if set&(1<<i) != 0 {
				l[i].turn(&j)
				first = i
			}
		}
		if e, at := Check(j); e != l[first].err || at != l[first].at || Right(j) {
			t.Fatalf("with the violated clauses %b: %d at %d, not %d at %d, and Right is %v", set, e, at, l[first].err, l[first].at, Right(j))
		}
	}
}

// P15.1: Clauses has the errors in the chapter's order, and each call returns a
// list of its own.
func TestClauses(t *testing.T) {
	first := Clauses()
	if !slices.Equal(first, order()) {
		t.Errorf("Clauses is %v, not %v", first, order())
	}
	clear(first)
	if l := Clauses(); !slices.Equal(l, order()) {
		t.Errorf("after its result was changed, Clauses is %v", l)
	}
	for i, d := range damages() {
		if d.err != order()[i] {
			t.Errorf("the damages are in another order: %d at %d", d.err, i)
		}
	}
}

// P15.1: as many items, floats and notes as there may be, and one more of each,
// also without anchors, and many more.
func TestLimits(t *testing.T) {
	expect(t, "as many as may be", filled(), api.OK, 0)

	j := filled()
	j.Items = append(j.Items, item.Box(1, 0))
	expect(t, "an item too many", j, api.ErrItems, 0)
	j = filled()
	j.Items = j.Items[:maxItems-1]
	j.Floats = append(j.Floats, api.Float{H: 1})
	j.Items = append(j.Items, item.Float(maxFloat))
	expect(t, "a float too many, with its anchor", j, api.ErrFloats, 0)
	j = filled()
	j.Items = j.Items[:maxItems-1]
	j.Notes = append(j.Notes, api.Note{Lines: []api.Sp{1}})
	j.Items = append(j.Items, item.Note(maxNotes))
	expect(t, "a note too many, with its anchor", j, api.ErrNotes, 0)

	for _, more := range []int{1, 2, 5000} {
		expect(t, "too many items", api.Job{Items: make([]api.Item, maxItems+more)}, api.ErrItems, 0)
		expect(t, "too many floats", api.Job{Floats: make([]api.Float, maxFloat+more)}, api.ErrFloats, 0)
		expect(t, "too many notes", api.Job{Notes: make([]api.Note, maxNotes+more)}, api.ErrNotes, 0)
	}
	// As many as may be of what is not valid: the counts are no fault.
	expect(t, "invalid items", api.Job{G: geom.Plain(1, 1), Items: make([]api.Item, maxItems)}, api.ErrItem, 0)
	expect(t, "invalid notes", api.Job{G: geom.Plain(1, 1), Notes: make([]api.Note, maxNotes)}, api.ErrNote, 0)
	expect(t, "invalid floats", api.Job{G: geom.Plain(1, 1), Floats: make([]api.Float, maxFloat)}, api.ErrFloat, 0)
	expect(t, "missing anchors", api.Job{G: geom.Plain(1, 1), Floats: slices.Repeat([]api.Float{{H: 1}}, maxFloat)}, api.ErrRef, 0)
}

// P15.1: an item too many counts also if that item itself, or the last one that
// may be, is not valid; the limits concern each list by itself.
func TestLimitsBeforeElements(t *testing.T) {
	l := slices.Repeat([]api.Item{item.Barrier()}, maxItems)
	l[maxItems-1] = api.Item{K: 77}
	expect(t, "the last item is not valid", api.Job{G: geom.Plain(1, 1), Items: l}, api.ErrItem, maxItems-1)
	expect(t, "and one more", api.Job{G: geom.Plain(1, 1), Items: append(l, api.Item{})}, api.ErrItems, 0)
	expect(t, "too many floats and notes", api.Job{Floats: make([]api.Float, 257), Notes: make([]api.Note, 513)}, api.ErrFloats, 0)
	expect(t, "as many notes as items may be", api.Job{Notes: make([]api.Note, maxItems)}, api.ErrNotes, 0)
	expect(t, "as many floats as notes may be", api.Job{Floats: make([]api.Float, maxNotes)}, api.ErrFloats, 0)
}

// P15.1: the two errors of the geometry, at the borders of its ranges; the index
// is 0.
func TestGeometry(t *testing.T) {
	for _, cols := range []int{math.MinInt, -1, 0, maxCols + 1, math.MaxInt} {
		expect(t, "columns", turned(func(j *api.Job) { j.G.Cols = cols }), api.ErrCols, 0)
		expect(t, "columns, and all else", turned(func(j *api.Job) { j.G = api.Geom{Cols: cols, Wide: -1} }), api.ErrCols, 0)
	}
	for _, cols := range []int{1, 2, maxCols} {
		expect(t, "columns", turned(func(j *api.Job) { j.G.Cols = cols }), api.OK, 0)
		expect(t, "columns without lengths", turned(func(j *api.Job) { j.G = api.Geom{Cols: cols} }), api.ErrGeom, 0)
	}
	for name, turn := range map[string]func(g *api.Geom){
		"Wide":                 func(g *api.Geom) { g.Wide = dim + 1 },
		"High":                 func(g *api.Geom) { g.High = 0 },
		"First":                func(g *api.Geom) { g.First = 0 },
		"First above High":     func(g *api.Geom) { g.First = g.High + 1 },
		"Grid":                 func(g *api.Geom) { g.Grid = -1 },
		"Grid above First":     func(g *api.Geom) { g.Grid = g.First + 1 },
		"Gap":                  func(g *api.Geom) { g.Gap = -1 },
		"TopMany":              func(g *api.Geom) { g.TopMany = 5 },
		"Defer":                func(g *api.Geom) { g.Defer = 1<<20 + 1 },
		"the least numbers":    func(g *api.Geom) { g.High, g.First, g.Grid = math.MinInt64, math.MinInt64, math.MinInt64 },
		"the greatest numbers": func(g *api.Geom) { g.High, g.First, g.Grid = math.MaxInt64, math.MaxInt64, math.MaxInt64 },
	} {
		expect(t, name, turned(func(j *api.Job) { turn(&j.G) }), api.ErrGeom, 0)
	}
}

// P15.1: the index is that of the first element that is not valid, at each place
// alone, and in front of all others.
func TestFirstElement(t *testing.T) {
	j := full()
	for i := range j.Items {
		alone := turned(func(j *api.Job) { j.Items[i] = api.Item{} })
		expect(t, "an invalid item", alone, api.ErrItem, i)
		expect(t, "invalid items", turned(func(j *api.Job) { clear(j.Items[i:]) }), api.ErrItem, i)
	}
	for i := range j.Notes {
		alone := turned(func(j *api.Job) { j.Notes[i] = api.Note{} })
		expect(t, "an invalid note", alone, api.ErrNote, i)
		expect(t, "invalid notes", turned(func(j *api.Job) { clear(j.Notes[i:]) }), api.ErrNote, i)
	}
	for i := range j.Floats {
		alone := turned(func(j *api.Job) { j.Floats[i] = api.Float{} })
		expect(t, "an invalid float", alone, api.ErrFloat, i)
		expect(t, "invalid floats", turned(func(j *api.Job) { clear(j.Floats[i:]) }), api.ErrFloat, i)
	}
}

// P15.1: elements that are not valid in other ways, at the borders of their
// ranges.
func TestElements(t *testing.T) {
	for _, x := range []api.Item{
		{K: 8}, {K: -1}, {K: math.MinInt}, {K: math.MaxInt}, item.Box(dim+1, 0), item.Box(1, 4), item.Glue(3, 0, 0, 4), item.Glue(3, 0, 4, 0),
		item.Pen(10001), item.Pen(-1), item.Mark(1<<20 + 1), {K: api.KBarrier, N: 1}, {K: api.KNote, N: 0, H: 1},
		item.Note(-1), item.Note(maxNotes), item.Float(-1), item.Float(maxFloat), item.Note(math.MinInt), item.Float(math.MaxInt),
	} {
		j := full()
		j.Items[7] = x
		expect(t, "an invalid item", j, api.ErrItem, 7)
	}
	for _, n := range []api.Note{
		{}, {Lines: []api.Sp{0}}, {Lines: []api.Sp{dim + 1}}, {Lines: []api.Sp{1}, Pens: []int{0}}, {Lines: []api.Sp{1, 2}},
		{Lines: []api.Sp{1, 2}, Pens: []int{-1}}, {Lines: []api.Sp{1, 2}, Pens: []int{10001}},
		{Lines: slices.Repeat([]api.Sp{1}, 65), Pens: make([]int, 64)},
	} {
		j := full()
		j.Notes[1] = n
		expect(t, "an invalid note", j, api.ErrNote, 1)
	}
	for _, f := range []api.Float{
		{}, {C: 3, H: 1}, {C: -1, H: 1}, {H: dim + 1}, {H: -1}, {H: 1, Where: 4}, {H: 1, Where: -1}, {H: math.MaxInt64}, {H: math.MinInt64},
	} {
		j := full()
		j.Floats[1] = f
		expect(t, "an invalid float", j, api.ErrFloat, 1)
	}
}

// boxes has room for anchors among n boxes.
func boxes(n int) []api.Item { return slices.Repeat([]api.Item{item.Box(1, 0)}, n) }

// anchored has these anchors, at the odd indices of its items, and as many notes
// and floats as are named.
func anchored(notes, floats int, anchors ...api.Item) api.Job {
	j := api.Job{G: geom.Plain(1, 10), Items: boxes(2*len(anchors) + 2)}
	for i, x := range anchors {
		j.Items[2*i+1] = x
	}
	for range notes {
		j.Notes = append(j.Notes, api.Note{Lines: []api.Sp{1}})
	}
	for range floats {
		j.Floats = append(j.Floats, api.Float{H: 1})
	}
	return j
}

// P15.1: notes and floats that are not anchored in order, written out.
func TestAnchored(t *testing.T) {
	n, f := item.Note, item.Float
	for name, x := range map[string]struct {
		j  api.Job
		at int
	}{
		"notes: the first N is too great":        {anchored(2, 0, n(1), n(0)), 1},
		"notes: N is too great":                  {anchored(3, 0, n(0), n(2), n(1)), 3},
		"notes: N is far too great":              {anchored(3, 0, n(0), n(1), n(511)), 5},
		"notes: N is below the one required":     {anchored(3, 0, n(0), n(1), n(0)), 5},
		"notes: twice the same":                  {anchored(2, 0, n(0), n(0)), 3},
		"notes: twice the same, then the next":   {anchored(3, 0, n(0), n(1), n(1), n(2)), 5},
		"notes: there is none":                   {anchored(0, 0, n(0)), 1},
		"notes: there is no further one":         {anchored(2, 0, n(0), n(1), n(2)), 5},
		"notes: there are no further two":        {anchored(1, 0, n(0), n(1), n(2)), 3},
		"notes: wrong, and no further one":       {anchored(1, 0, n(1), n(2)), 1},
		"notes: there is no anchor":              {anchored(1, 0), 2},
		"notes: the last anchor is missing":      {anchored(3, 0, n(0), n(1)), 6},
		"notes: wrong, and anchors are missing":  {anchored(4, 0, n(0), n(2)), 3},
		"floats: the first N is too great":       {anchored(0, 2, f(1), f(0)), 1},
		"floats: N is too great":                 {anchored(0, 3, f(0), f(2), f(1)), 3},
		"floats: N is far too great":             {anchored(0, 3, f(0), f(1), f(255)), 5},
		"floats: N is below the one required":    {anchored(0, 3, f(0), f(1), f(0)), 5},
		"floats: twice the same":                 {anchored(0, 2, f(0), f(0)), 3},
		"floats: twice the same, then the next":  {anchored(0, 3, f(0), f(1), f(1), f(2)), 5},
		"floats: there is none":                  {anchored(0, 0, f(0)), 1},
		"floats: there is no further one":        {anchored(0, 2, f(0), f(1), f(2)), 5},
		"floats: there are no further two":       {anchored(0, 1, f(0), f(1), f(2)), 3},
		"floats: wrong, and no further one":      {anchored(0, 1, f(1), f(2)), 1},
		"floats: there is no anchor":             {anchored(0, 1), 2},
		"floats: the last anchor is missing":     {anchored(0, 3, f(0), f(1)), 6},
		"floats: wrong, and anchors are missing": {anchored(0, 4, f(0), f(2)), 3},
		"both wrong, a note first":               {anchored(2, 2, n(1), f(1), n(0), f(0)), 1},
		"both wrong, a float first":              {anchored(2, 2, f(1), n(1), n(0), f(0)), 1},
		"both wrong, a note first, later":        {anchored(2, 2, f(0), n(0), n(0), f(0)), 5},
		"both wrong, a float first, later":       {anchored(2, 2, f(0), n(0), f(0), n(0)), 5},
		"a wrong note, and no further float":     {anchored(1, 0, n(1), f(0)), 1},
		"no further float, and a wrong note":     {anchored(1, 0, f(0), n(1)), 1},
		"no further note, and a wrong float":     {anchored(0, 1, n(0), f(1)), 1},
		"a wrong float, and no further note":     {anchored(0, 1, f(1), n(0)), 1},
		"notes are missing, a float is wrong":    {anchored(2, 2, n(0), f(0), f(2)), 5},
		"floats are missing, a note is wrong":    {anchored(2, 2, n(0), f(0), n(0)), 5},
		"notes are missing, one float too many":  {anchored(2, 1, n(0), f(0), f(1)), 5},
		"floats are missing, one note too many":  {anchored(1, 2, n(0), f(0), n(1)), 5},
		"notes are missing, not floats":          {anchored(2, 1, n(0), f(0)), 6},
		"floats are missing, not notes":          {anchored(1, 2, n(0), f(0)), 6},
		"both are missing":                       {anchored(2, 2, n(0), f(0)), 6},
		"a missing note and a float in its N":    {anchored(2, 1, n(0), f(1)), 3},
	} {
		expect(t, name, x.j, api.ErrRef, x.at)
	}
}

// P15.1: an anchor with an N below 0 is an invalid item before it is anything
// else; and so is one whose N no job has.
func TestAnchorsThatAreNoItems(t *testing.T) {
	for _, x := range []api.Item{item.Note(-1), item.Float(-1), item.Note(512), item.Float(256)} {
		expect(t, "an N out of its range", anchored(1, 1, item.Note(0), item.Float(0), x), api.ErrItem, 5)
		expect(t, "behind a wrong N", anchored(1, 1, item.Note(1), item.Float(1), x), api.ErrItem, 5)
	}
}

// P15.1: without items the index of what is missing is 0.
func TestMissingWithoutItems(t *testing.T) {
	j := bare()
	j.Notes = []api.Note{{Lines: []api.Sp{1}}}
	expect(t, "a note without items", j, api.ErrRef, 0)
	j = bare()
	j.Floats = []api.Float{{H: 1}}
	expect(t, "a float without items", j, api.ErrRef, 0)
}

// required returns the index that ErrRef has by the chapter's text, or -1: an
// item is wrong by what is before it alone.
func required(j api.Job) int {
	for i, x := range j.Items {
		before := j.Items[:i]
		if x.K == api.KNote && (x.N != item.Count(before, api.KNote) || x.N > len(j.Notes)-1) {
			return i
		}
		if x.K == api.KFloat && (x.N != item.Count(before, api.KFloat) || x.N > len(j.Floats)-1) {
			return i
		}
	}
	if item.Count(j.Items, api.KNote) < len(j.Notes) || item.Count(j.Items, api.KFloat) < len(j.Floats) {
		return len(j.Items)
	}
	return -1
}

// lists returns all lists of up to n of these items.
func lists(n int, choice ...api.Item) [][]api.Item {
	all := [][]api.Item{nil}
	for last := all; n > 0; n-- {
		var longer [][]api.Item
		for _, l := range last {
			for _, x := range choice {
				longer = append(longer, append(slices.Clone(l), x))
			}
		}
		all, last = append(all, longer...), longer
	}
	return all
}

// P15.1: all short lists of anchors, with all small numbers of notes and floats.
func TestAllAnchored(t *testing.T) {
	right, wrong := 0, 0
	for _, l := range lists(5, item.Note(0), item.Note(1), item.Float(0), item.Float(1), item.Float(2), item.Barrier()) {
		for notes := range 3 {
			for floats := range 4 {
				j := anchored(notes, floats)
				j.Items = l
				want, at := api.OK, 0
				if i := required(j); i >= 0 {
					want, at = api.ErrRef, i
					wrong++
				} else {
					right++
				}
				if e, i := Check(j); e != want || i != at {
					t.Fatalf("%d notes, %d floats, %v: Check is %d at %d, not %d at %d", notes, floats, l, e, i, want, at)
				}
			}
		}
	}
	if right == 0 || wrong == 0 {
		t.Errorf("%d jobs are right, %d wrong: both are to be tested", right, wrong)
	}
}

// paged is a job with floats of these heights.
func paged(high, first, step api.Sp, floats ...api.Sp) api.Job {
	j := api.Job{G: geom.Plain(1, high)}
	j.G.First, j.G.Grid = first, step
	for i, h := range floats {
		j.Floats = append(j.Floats, api.Float{H: h})
		j.Items = append(j.Items, item.Float(i))
	}
	return j
}

// P15.1: floats just as high as the columns of the first page, and higher ones,
// written out.
func TestTall(t *testing.T) {
	for name, x := range map[string]struct {
		j   api.Job
		err api.Errno
		at  int
	}{
		"as high":                                 {paged(100, 100, 0, 100), api.OK, 0},
		"higher by 1":                             {paged(100, 100, 0, 101), api.ErrTall, 0},
		"as high as First":                        {paged(200, 100, 0, 1, 100, 99), api.OK, 0},
		"higher than First, not than High":        {paged(200, 100, 0, 1, 100, 101), api.ErrTall, 2},
		"as high as High":                         {paged(200, 100, 0, 200), api.ErrTall, 0},
		"the first one of several":                {paged(100, 100, 0, 100, 101, 3, 1000), api.ErrTall, 1},
		"the least column":                        {paged(1, 1, 0, 1), api.OK, 0},
		"higher than the least column":            {paged(1, 1, 0, 2), api.ErrTall, 0},
		"the greatest of all":                     {paged(dim, dim, 0, dim), api.OK, 0},
		"the greatest float, a column less":       {paged(dim, dim-1, 0, dim), api.ErrTall, 0},
		"on a grid, as high":                      {paged(100, 100, 10, 100), api.OK, 0},
		"on a grid, raised just as high":          {paged(100, 100, 10, 91), api.OK, 0},
		"on a grid, higher":                       {paged(100, 100, 10, 90, 101), api.ErrTall, 1},
		"on a grid of 1, as high":                 {paged(100, 100, 1, 100), api.OK, 0},
		"on a grid of 1, higher":                  {paged(100, 100, 1, 101), api.ErrTall, 0},
		"higher only if raised":                   {paged(95, 95, 10, 91), api.ErrTall, 0},
		"higher only if raised, or First lowered": {paged(100, 99, 10, 90, 99), api.ErrTall, 1},
		"higher only if First is lowered":         {paged(100, 100, 3, 100), api.ErrTall, 0},
		"higher by 1 if First is lowered":         {paged(100, 100, 3, 99, 100), api.ErrTall, 1},
		"as high as First lowered":                {paged(100, 100, 3, 97, 98, 99), api.OK, 0},
		"First lowered, not High":                 {paged(100, 95, 10, 92), api.ErrTall, 0},
		"the greatest grid":                       {paged(dim, dim, 1<<29, 1<<29), api.OK, 0},
		"higher on the greatest grid":             {paged(dim, dim, 1<<29, 1, 1<<29+1), api.ErrTall, 1},
		"the greatest float on a grid":            {paged(dim, dim, 1<<29, dim), api.ErrTall, 0},
		"the greatest float on a grid of it all":  {paged(dim, dim, 3, dim), api.OK, 0},
		"a grid as high as the column":            {paged(7, 7, 7, 1, 7), api.OK, 0},
		"higher than a grid as high as that":      {paged(7, 7, 7, 8), api.ErrTall, 0},
	} {
		expect(t, name, x.j, x.err, x.at)
	}
}

// P15.1: all small heights with all small steps, by counting steps.
func TestAllTall(t *testing.T) {
	for step := range api.Sp(9) {
		unit := max(step, 1)
		for first := unit; first <= 25; first++ {
			for h := api.Sp(1); h <= 30; h++ {
				room, high := api.Sp(0), api.Sp(0)
				for room+unit <= first {
					room += unit
				}
				for high < h {
					high += unit
				}
				want, at := api.OK, 0
				if high > room {
					want, at = api.ErrTall, 1
				}
				// The float before it fits, whatever the step is.
				if e, i := Check(paged(40, first, step, 1, h)); e != want || i != at {
					t.Fatalf("step %d, First %d, H %d: Check is %d at %d, not %d at %d", step, first, h, e, i, want, at)
				}
			}
		}
	}
}

// P15.2: lists written out: none, in order, out of order, other kinds between.
func TestAnchors(t *testing.T) {
	n, f := item.Note, item.Float
	box := item.Box(1, 0)
	for name, x := range map[string]struct {
		l             []api.Item
		notes, floats int
	}{
		"nil":                    {nil, -1, -1},
		"empty":                  {[]api.Item{}, -1, -1},
		"none of that kind":      {[]api.Item{box, item.Barrier(), item.Pen(7), item.Mark(9)}, -1, -1},
		"one note":               {[]api.Item{n(0)}, -1, -1},
		"one float":              {[]api.Item{f(0)}, -1, -1},
		"in order":               {[]api.Item{n(0), n(1), n(2)}, -1, -1},
		"in order, both":         {[]api.Item{f(0), n(0), box, f(1), box, n(1), f(2)}, -1, -1},
		"the first one":          {[]api.Item{n(1)}, 0, -1},
		"the first one, later":   {[]api.Item{box, box, f(1), f(0)}, -1, 2},
		"too great":              {[]api.Item{n(0), f(0), n(2)}, 2, -1},
		"below the one required": {[]api.Item{n(0), n(1), n(0), n(3)}, 2, -1},
		"twice the same":         {[]api.Item{f(0), f(0), f(1)}, -1, 1},
		"swapped":                {[]api.Item{n(1), n(0), f(1), f(0)}, 0, 2},
		"below 0":                {[]api.Item{n(-1), f(0), f(-1)}, 0, 2},
		"the first of several":   {[]api.Item{n(0), n(5), n(6), f(0), f(1), f(3), f(9)}, 1, 5},
		"extreme":                {[]api.Item{n(math.MinInt), f(math.MaxInt)}, 0, 1},
		"low bits":               {[]api.Item{n(0), n(1<<32 + 1), f(1 << 32)}, 1, 2},
	} {
		if notes, floats := Anchors(x.l, api.KNote), Anchors(x.l, api.KFloat); notes != x.notes || floats != x.floats {
			t.Errorf("%s: Anchors is %d for notes and %d for floats, not %d and %d", name, notes, floats, x.notes, x.floats)
		}
	}
}

// P15.2: kinds that no item of the list has, and kinds that no item has at all.
func TestAnchorsOfOtherKinds(t *testing.T) {
	kinds := []int{api.KNone, api.KBox, api.KGlue, api.KPen, api.KMark, api.KBarrier, 8, 1 << 32, 1<<32 + api.KNote, -api.KNote, -1, math.MinInt, math.MaxInt}
	for _, k := range kinds {
		for _, l := range [][]api.Item{nil, {}, {item.Note(1), item.Float(1)}} {
			if got := Anchors(l, k); got != -1 {
				t.Errorf("kind %d is not in %v: Anchors is %d", k, l, got)
			}
		}
		// The text gives no range for k: any kind may be in order.
		good := []api.Item{{K: k}, item.Note(7), {K: k, N: 1}, {K: k, N: 2}}
		if got := Anchors(good, k); got != -1 {
			t.Errorf("kind %d in order: Anchors is %d", k, got)
		}
		if got := Anchors(append(good, api.Item{K: k, N: 2}), k); got != 4 {
			t.Errorf("kind %d out of order: Anchors is %d, not 4", k, got)
		}
	}
	if got := Anchors(full().Items, api.KBox); got != 10 {
		t.Errorf("two boxes with N 0: Anchors is %d, not 10", got)
	}
}

// P15.2: all short lists, by the chapter's text: an item has another N than as
// many as are before it.
func TestAllAnchors(t *testing.T) {
	for _, l := range lists(6, item.Note(0), item.Note(1), item.Note(2), item.Float(0)) {
		for _, k := range []int{api.KNote, api.KFloat, api.KBox} {
			want := -1
			for i, x := range l {
				if x.K == k && x.N != item.Count(l[:i], k) {
					want = i
					break
				}
			}
			if got := Anchors(l, k); got != want {
				t.Fatalf("Anchors(%v, %d) is %d, not %d", l, k, got, want)
			}
		}
	}
}

// P15.2: a list of anchors that is longer than a job may be.
func TestAnchorsOfLongLists(t *testing.T) {
	var l []api.Item
	for i := range 10000 {
		l = append(l, item.Note(i), item.Float(i))
	}
	if got := Anchors(l, api.KNote); got != -1 {
		t.Errorf("in order: Anchors is %d", got)
	}
	l[19998].N = 0
	if got := Anchors(l, api.KNote); got != 19998 {
		t.Errorf("the last one is wrong: Anchors is %d", got)
	}
	if got := Anchors(l, api.KFloat); got != -1 {
		t.Errorf("the last one of another kind is wrong: Anchors is %d", got)
	}
}

// extremes are jobs of numbers that no job has.
func extremes() []api.Job {
	var l []api.Job
	for _, n := range []int{math.MinInt, math.MinInt + 1, -1, math.MaxInt - 1, math.MaxInt} {
		h := api.Sp(n)
		g := api.Geom{
			Cols: n, Wide: h, Gap: h, High: h, First: h, Grid: h, Rule: h, Sep: h, NoteMost: h, TopMost: h, BotMost: h,
			TopMany: n, BotMany: n, Club: n, Widow: n, Split: n, Defer: n, Spare: n,
		}
		j := api.Job{
			G:      g,
			Items:  []api.Item{{K: n, H: h, F: n, Str: h, Ord: n, Shr: h, N: n}, {K: api.KNote, N: n}},
			Notes:  []api.Note{{}, {Lines: []api.Sp{h, h}, Pens: []int{n, n, n}}},
			Floats: []api.Float{{C: n, H: h, Where: n}},
		}
		l = append(l, j)
		j.G.Cols = 1
		l = append(l, j)
		j.G = geom.Plain(1, 10)
		l = append(l, j)
	}
	return l
}

// P1: jobs with extreme numbers are answered.
func TestExtremes(t *testing.T) {
	for i, j := range extremes() {
		want := []api.Errno{api.ErrCols, api.ErrGeom, api.ErrItem}[i%3]
		expect(t, "extreme numbers", j, want, 0)
	}
	expect(t, "the zero job", api.Job{}, api.ErrCols, 0)
}

// P4: the job that was passed, with all its lists, reads as before.
func TestJobIsNotModified(t *testing.T) {
	makers := valids()
	for i, d := range damages() {
		makers["damaged "+string(rune('a'+i))] = func() api.Job { return turned(d.turn) }
	}
	for i := range extremes() {
		makers["extreme "+string(rune('a'+i))] = func() api.Job { return extremes()[i] }
	}
	makers["wrong on a grid"] = func() api.Job { return paged(95, 95, 10, 7, 91) }
	for name, create := range makers {
		j, before := create(), create()
		Check(j)
		Right(j)
		for k := -1; k <= 8; k++ {
			Anchors(j.Items, k)
		}
		if !reflect.DeepEqual(j, before) {
			t.Errorf("%s: the job has become\n%v, not\n%v", name, j, before)
		}
	}
}

// cut returns j without its last n items, and without the notes and floats that
// are no longer anchored.
func cut(j api.Job, n int) api.Job {
	j.Items = j.Items[:len(j.Items)-n]
	j.Notes = j.Notes[:item.Count(j.Items, api.KNote)]
	j.Floats = j.Floats[:item.Count(j.Items, api.KFloat)]
	return j
}

// long is a valid job on a grid with anchors of both kinds in many orders.
func long() api.Job {
	j := paged(100, 90, 7)
	for i := range 300 {
		switch {
		case i%7 == 2 || i%5 == 1:
			j.Items = append(j.Items, item.Note(len(j.Notes)))
			j.Notes = append(j.Notes, api.Note{Lines: []api.Sp{api.Sp(i)}})
		case i%7 == 4 || i%11 == 3:
			j.Items = append(j.Items, item.Float(len(j.Floats)))
			j.Floats = append(j.Floats, api.Float{C: i % 3, H: api.Sp(i%84 + 1), Where: i % 4})
		default:
			j.Items = append(j.Items, item.Box(api.Sp(i), i%4))
		}
	}
	return j
}

// P15.3: a valid job stays valid however many items are removed from its end,
// together with what they anchor.
func TestShorterJobs(t *testing.T) {
	makers := valids()
	makers["long"] = long
	for name, create := range makers {
		j := create()
		for n := range len(j.Items) + 1 {
			// The greatest job alone is not asked for every number, to save time.
			if name == "filled" && n%61 != 0 && n != len(j.Items) {
				continue
			}
			if e, at := Check(cut(j, n)); e != api.OK || at != 0 || !Right(cut(j, n)) {
				t.Fatalf("%s without %d items: Check is %d at %d", name, n, e, at)
			}
		}
	}
}

// P15.1: with its notes and floats the job does not stay valid, for the last item
// is an anchor.
func TestShorterJobsWithAllNotes(t *testing.T) {
	expect(t, "with all items", full(), api.OK, 0)
	for n := range len(full().Items) {
		j := full()
		j.Items = j.Items[:n]
		expect(t, "with all notes and floats", j, api.ErrRef, n)
	}
}
