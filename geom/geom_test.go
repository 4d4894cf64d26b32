package geom

import (
	"math"
	"math/big"
	"testing"

	"tympan/api"
)

// The limits, as the document's table has them.
const (
	dim  = 1073741823 // 2^30 - 1
	step = 536870912  // 2^29
	dem  = 1048576    // 2^20
)

// field is a number of a geometry with its range, and how it is set.
type field struct {
	name      string
	low, high int64
	set       func(g *api.Geom, n int64)
}

// table holds the ranges of the chapter, with those of First and Grid for a
// geometry whose High and First are as great as can be.
func table() []field {
	return []field{
		{"Wide", 1, dim, func(g *api.Geom, n int64) { g.Wide = api.Sp(n) }},
		{"High", 1, dim, func(g *api.Geom, n int64) { g.High = api.Sp(n) }},
		{"Gap", 0, dim, func(g *api.Geom, n int64) { g.Gap = api.Sp(n) }},
		{"NoteMost", 0, dim, func(g *api.Geom, n int64) { g.NoteMost = api.Sp(n) }},
		{"TopMost", 0, dim, func(g *api.Geom, n int64) { g.TopMost = api.Sp(n) }},
		{"BotMost", 0, dim, func(g *api.Geom, n int64) { g.BotMost = api.Sp(n) }},
		{"Rule", 0, step, func(g *api.Geom, n int64) { g.Rule = api.Sp(n) }},
		{"Sep", 0, step, func(g *api.Geom, n int64) { g.Sep = api.Sp(n) }},
		{"First", 1, dim, func(g *api.Geom, n int64) { g.First = api.Sp(n) }},
		{"Grid", 0, step, func(g *api.Geom, n int64) { g.Grid = api.Sp(n) }},
		{"TopMany", 0, 4, func(g *api.Geom, n int64) { g.TopMany = int(n) }},
		{"BotMany", 0, 4, func(g *api.Geom, n int64) { g.BotMany = int(n) }},
		{"Club", 0, dem, func(g *api.Geom, n int64) { g.Club = int(n) }},
		{"Widow", 0, dem, func(g *api.Geom, n int64) { g.Widow = int(n) }},
		{"Split", 0, dem, func(g *api.Geom, n int64) { g.Split = int(n) }},
		{"Defer", 0, dem, func(g *api.Geom, n int64) { g.Defer = int(n) }},
		{"Spare", 0, dem, func(g *api.Geom, n int64) { g.Spare = int(n) }},
	}
}

// small has every field at its least value, great at its greatest one.
func small() api.Geom {
	return api.Geom{Cols: 1, Wide: 1, High: 1, First: 1}
}

func great() api.Geom {
	return api.Geom{
		Cols: 8, Wide: dim, Gap: dim, High: dim, First: dim, Grid: step, Rule: step, Sep: step,
		NoteMost: dim, TopMost: dim, BotMost: dim, TopMany: 4, BotMany: 4,
		Club: dem, Widow: dem, Split: dem, Defer: dem, Spare: dem, Balance: true,
	}
}

// middle has room for each field to be anything without another one being
// wrong, but for High, which must not be below First.
func middle() api.Geom {
	return api.Geom{
		Cols: 3, Wide: 70, Gap: 5, High: dim, First: dim, Grid: 0, Rule: 2, Sep: 3,
		NoteMost: 40, TopMost: 50, BotMost: 30, TopMany: 2, BotMany: 1,
		Club: 150, Widow: 160, Split: 170, Defer: 180, Spare: 190,
	}
}

// paper is an ordinary geometry with that many columns.
func paper(cols int) api.Geom {
	return api.Geom{Cols: cols, Wide: 70, Gap: 5, High: 100, First: 80, Grid: 10, Rule: 2, Sep: 3, NoteMost: 40, TopMost: 50, BotMost: 30, TopMany: 2, BotMany: 1}
}

// outside are numbers below and above a range: just so, at the ends of the
// type, and such that their low bits alone would be within it.
func outside(low, high int64) []int64 {
	return []int64{
		low - 1, low - 2, -1 << 31, -1 << 32, -1<<32 + 1, math.MinInt64, math.MinInt64 + 1, math.MinInt64 + 2,
		high + 1, high + 2, 1 << 31, 1 << 32, 1<<32 + 1, 1<<32 + 2, math.MaxInt64 - 1, math.MaxInt64,
	}
}

// wrong are geometries that are not valid, each with something else.
func wrong() []api.Geom {
	l := []api.Geom{{}, {Cols: 2}, {Cols: 2, High: 100, First: 100}, Plain(0, 100), Plain(9, 100), Plain(2, 0), Plain(2, dim+1), Plain(-2, 100)}
	for _, f := range table() {
		for _, n := range outside(f.low, f.high) {
			g := middle()
			f.set(&g, n)
			l = append(l, g)
		}
	}
	for _, n := range outside(1, 8) {
		g := paper(2)
		g.Cols = int(n)
		l = append(l, g)
	}
	g := paper(2)
	g.First = g.High + 1
	h := paper(2)
	h.Grid = h.First + 1
	return append(l, g, h)
}

// numbersOf are columns of geometries with that many columns, and other
// numbers.
func numbersOf(cols int) []int {
	l := []int{
		math.MinInt, math.MinInt + 1, -1 << 32, math.MinInt32, -cols - 1, -cols, -2, -1,
		math.MaxInt32, 1 << 32, 1<<32 + 1, math.MaxInt - 8, math.MaxInt - 2, math.MaxInt - 1, math.MaxInt,
	}
	for n := range 6*cols + 2 {
		l = append(l, n)
	}
	return l
}

// expect holds Check against what is wanted.
func expect(t *testing.T, g api.Geom, want api.Errno) {
	t.Helper()
	if got := Check(g); got != want {
		t.Errorf("Check(%+v) = %d, want %d", g, got, want)
	}
}

// P13.2: the chapter's example.
func TestExample(t *testing.T) {
	if p, i := Page(Plain(2, 100), 5); p != 2 || i != 1 {
		t.Errorf("Page = %d, %d, want 2, 1", p, i)
	}
}

// P13.1: geometries with every field at its least, at its greatest value, and
// between them.
func TestCheckValid(t *testing.T) {
	expect(t, small(), api.OK)
	expect(t, great(), api.OK)
	expect(t, middle(), api.OK)
	for cols := 1; cols <= 8; cols++ {
		expect(t, paper(cols), api.OK)
	}
	for _, f := range table() {
		if f.name == "High" {
			continue
		}
		for _, n := range []int64{f.low, f.low + 1, (f.low + f.high) / 2, f.high - 1, f.high} {
			g := middle()
			f.set(&g, n)
			expect(t, g, api.OK)
		}
	}
}

// P13.1: the least and the greatest number of each field beside all others at
// their opposites.
func TestCheckOpposites(t *testing.T) {
	for _, f := range table() {
		g, h := small(), great()
		f.set(&h, f.low)
		if f.name == "High" {
			h.First, h.Grid = 1, 1
		}
		if f.name == "First" {
			h.Grid = 1
		}
		expect(t, h, api.OK)
		f.set(&g, f.high)
		if f.name == "First" {
			g.High = dim
		}
		if f.name == "Grid" {
			g.High, g.First = step, step
		}
		expect(t, g, api.OK)
	}
}

// P13.1: one field alone is out of its range.
func TestCheckOutside(t *testing.T) {
	for _, f := range table() {
		for _, n := range outside(f.low, f.high) {
			for _, g := range []api.Geom{small(), middle(), great()} {
				f.set(&g, n)
				expect(t, g, api.ErrGeom)
			}
		}
	}
}

// P13.1: the number of columns.
func TestCheckCols(t *testing.T) {
	for n := -20; n <= 20; n++ {
		for _, g := range []api.Geom{small(), middle(), great()} {
			g.Cols = n
			want := api.ErrCols
			if n >= 1 && n <= 8 {
				want = api.OK
			}
			expect(t, g, want)
		}
	}
	for _, n := range outside(1, 8) {
		g := middle()
		g.Cols = int(n)
		expect(t, g, api.ErrCols)
	}
}

// P13.1: the number of columns comes first, whatever else is wrong.
func TestCheckColsFirst(t *testing.T) {
	expect(t, api.Geom{}, api.ErrCols)
	expect(t, api.Geom{Cols: 1}, api.ErrGeom)
	for _, cols := range []int64{0, -1, 9, math.MinInt64, math.MaxInt64} {
		for _, f := range table() {
			for _, n := range outside(f.low, f.high) {
				g := middle()
				f.set(&g, n)
				g.Cols = int(cols)
				expect(t, g, api.ErrCols)
			}
		}
	}
}

// P13.1: First is between 1 and High, and High not below it.
func TestCheckFirst(t *testing.T) {
	for _, high := range []api.Sp{1, 2, 50, step, dim} {
		g := small()
		g.High = high
		for _, first := range []api.Sp{-1, 0, 1, 2, high - 1, high, high + 1, dim, math.MaxInt64, math.MinInt64} {
			g.First = first
			want := api.ErrGeom
			if first >= 1 && first <= high {
				want = api.OK
			}
			expect(t, g, want)
		}
	}
	g := middle()
	for _, g.High = range []api.Sp{1, 50, dim - 1} {
		expect(t, g, api.ErrGeom)
	}
}

// P13.1: Grid is between 0 and First, High being greater or not, and not above
// MaxStep.
func TestCheckGrid(t *testing.T) {
	for _, first := range []api.Sp{1, 2, 80, step - 1, step, step + 1, dim} {
		for _, high := range []api.Sp{first, min(first+7, dim), dim} {
			g := small()
			g.First, g.High = first, high
			for _, grid := range []api.Sp{-1, 0, 1, 2, first - 1, first, first + 1, step - 1, step, step + 1, dim, math.MinInt64, math.MaxInt64} {
				g.Grid = grid
				want := api.ErrGeom
				if grid >= 0 && grid <= first && grid <= step {
					want = api.OK
				}
				expect(t, g, want)
			}
		}
	}
}

// P13.1: the lengths need not fit one another but for First and Grid; Balance
// does not matter.
func TestCheckOthers(t *testing.T) {
	g := small()
	g.NoteMost, g.TopMost, g.BotMost, g.Rule, g.Sep, g.Gap = dim, dim, dim, step, step, dim
	expect(t, g, api.OK)
	for _, g := range append(wrong(), small(), great(), middle(), paper(3)) {
		h := g
		h.Balance = !g.Balance
		expect(t, h, Check(g))
	}
}

// P13.2: the position of a column.
func TestCol(t *testing.T) {
	for cols := 1; cols <= 8; cols++ {
		for _, n := range numbersOf(cols) {
			want := n
			if n < 0 {
				want = 0
			}
			if n >= cols {
				want = cols
			}
			if got := Col(paper(cols), n); got != want {
				t.Errorf("%d columns: Col(%d) = %d, want %d", cols, n, got, want)
			}
		}
	}
}

// P13.2: the height at a position.
func TestHigh(t *testing.T) {
	for cols := 1; cols <= 8; cols++ {
		for _, n := range numbersOf(cols) {
			want := api.Sp(100)
			if n < cols {
				want = 80
			}
			if got := High(paper(cols), n); got != want {
				t.Errorf("%d columns: High(%d) = %d, want %d", cols, n, got, want)
			}
		}
	}
	if High(great(), 0) != dim || High(small(), 1) != 1 {
		t.Error("High at the ends of its range")
	}
}

// P13.2: a page begins after Cols columns of the previous one.
func TestPage(t *testing.T) {
	for cols := 1; cols <= 8; cols++ {
		page, index := 0, 0
		for n := range 100 {
			if p, i := Page(paper(cols), n); p != page || i != index {
				t.Errorf("%d columns: Page(%d) = %d, %d, want %d, %d", cols, n, p, i, page, index)
			}
			if index++; index == cols {
				page, index = page+1, 0
			}
		}
	}
}

// P13.2: the page of any number is what it is in exact numbers.
func TestPageExact(t *testing.T) {
	for cols := 1; cols <= 8; cols++ {
		for _, n := range numbersOf(cols) {
			page, index := new(big.Int), new(big.Int)
			if n > 0 {
				page.DivMod(big.NewInt(int64(n)), big.NewInt(int64(cols)), index)
			}
			if p, i := Page(paper(cols), n); int64(p) != page.Int64() || int64(i) != index.Int64() {
				t.Errorf("%d columns: Page(%d) = %d, %d, want %v, %v", cols, n, p, i, page, index)
			}
		}
	}
}

// P13.2: the distance from the left edge, also with the greatest lengths.
func TestX(t *testing.T) {
	for cols := 1; cols <= 8; cols++ {
		for _, long := range [][2]api.Sp{{70, 5}, {1, 0}, {70, 0}, {1, dim}, {dim, 0}, {dim, dim}} {
			g := paper(cols)
			g.Wide, g.Gap = long[0], long[1]
			for _, n := range numbersOf(cols) {
				var want api.Sp
				for range max(n, 0) % cols {
					want += long[0] + long[1]
				}
				if got := X(g, n); got != want {
					t.Errorf("X(%+v, %d) = %d, want %d", g, n, got, want)
				}
			}
		}
	}
	if got := X(great(), 7); got != 15032385522 {
		t.Errorf("the greatest X = %d, want 7 * (2^31 - 2)", got)
	}
}

// P13.2: all of them return 0 for geometries that are not valid.
func TestInvalid(t *testing.T) {
	for _, g := range wrong() {
		if Check(g) == api.OK {
			t.Errorf("Check(%+v) = OK", g)
		}
		for _, n := range numbersOf(8) {
			p, i := Page(g, n)
			if p != 0 || i != 0 || Col(g, n) != 0 || High(g, n) != 0 || X(g, n) != 0 {
				t.Errorf("%+v, column %d: not 0", g, n)
			}
		}
	}
}

// P13.2: Plain, field by field, for any numbers.
func TestPlain(t *testing.T) {
	for _, cols := range []int{math.MinInt, -1, 0, 1, 2, 5, 8, 9, math.MaxInt} {
		for _, high := range []api.Sp{math.MinInt64, -1, 0, 1, 100, dim, dim + 1, math.MaxInt64} {
			want := api.Geom{
				Cols: cols, Wide: high, Gap: 0, High: high, First: high, Grid: 0, Rule: 0, Sep: 0,
				NoteMost: high, TopMost: high, BotMost: high, TopMany: 4, BotMany: 4,
				Club: 0, Widow: 0, Split: 0, Defer: 0, Spare: 0, Balance: false,
			}
			if got := Plain(cols, high); got != want {
				t.Errorf("Plain(%d, %d) = %+v", cols, high, got)
			}
			err := api.OK
			if high < 1 || high > dim {
				err = api.ErrGeom
			}
			if cols < 1 || cols > 8 {
				err = api.ErrCols
			}
			expect(t, Plain(cols, high), err)
		}
	}
}

// P13.3: the columns of a page are separated by Gap, from the left edge on, and
// the next page begins after the last one.
func TestApart(t *testing.T) {
	for cols := 1; cols <= 8; cols++ {
		for _, gap := range []api.Sp{0, 1, 5, dim} {
			g := paper(cols)
			g.Gap = gap
			for n := range 5 * cols {
				p, i := Page(g, n)
				q, j := Page(g, n+1)
				if i == 0 && X(g, n) != 0 {
					t.Errorf("column %d of %+v is at %d", n, g, X(g, n))
				}
				if p == q && (j != i+1 || X(g, n+1)-(X(g, n)+g.Wide) != gap) {
					t.Errorf("columns %d and %d of %+v are not %d apart", n, n+1, g, gap)
				}
				if p != q && (q != p+1 || i != cols-1 || j != 0) {
					t.Errorf("a page of %+v ends at column %d", g, n)
				}
			}
		}
	}
}
