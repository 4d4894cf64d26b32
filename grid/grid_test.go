package grid

import (
	"math"
	"math/big"
	"reflect"
	"slices"
	"testing"

	"tympan/api"
)

const (
	least = api.Sp(math.MinInt64)
	most  = api.Sp(math.MaxInt64)
	dim   = 1073741823 // 2^30 - 1
)

// steps are even and odd, small and great, up to the greatest number.
func steps() []api.Sp {
	return []api.Sp{1, 2, 3, 4, 5, 6, 7, 10, 12, 1 << 29, dim, 1 << 30, 1 << 32, 1<<32 + 1, 1 << 62, 1<<62 + 1, most - 1, most}
}

// around are numbers at which the multiples of step change: 0, multiples and
// halves between them, both ends of the type, and what is beside all of these.
func around(step api.Sp) []api.Sp {
	l := []api.Sp{0, least, least / 2, most / 2, least + 4, most - 4}
	for _, k := range []int64{-7, -4, -3, -2, -1, 1, 2, 3, 4, 7} {
		half := new(big.Int).Mul(exact(step), big.NewInt(k))
		if half.Rsh(half, 1); half.IsInt64() {
			l = append(l, api.Sp(half.Int64()))
		}
	}
	// The last multiples of the type, and the halves around them.
	last, first := most-most%step, least-least%step
	l = append(l, last, first, last-step/2, first+step/2)
	if most-last >= step/2 {
		l = append(l, last+step/2)
	}
	if first-least >= step/2 {
		l = append(l, first-step/2)
	}
	var out []api.Sp
	for _, n := range l {
		for d := api.Sp(-3); d <= 3; d++ {
			out = append(out, n+d) // wraps round to the other end, which is as good
		}
	}
	slices.Sort(out)
	return slices.Compact(out)
}

func exact(n api.Sp) *big.Int { return big.NewInt(int64(n)) }

// floor and ceil are the multiples of step on both sides of n; Div rounds down
// for a positive divisor.
func floor(n, step *big.Int) *big.Int {
	q := new(big.Int).Div(n, step)
	return q.Mul(q, step)
}

func ceil(n, step *big.Int) *big.Int {
	m := floor(new(big.Int).Neg(n), step)
	return m.Neg(m)
}

func nearest(n, step *big.Int) *big.Int {
	low, high := floor(n, step), ceil(n, step)
	if new(big.Int).Sub(n, low).Cmp(new(big.Int).Sub(high, n)) < 0 {
		return low
	}
	return high
}

// lengthOr is what a call must return for n whose exact result is m.
func lengthOr(m *big.Int, n api.Sp) (api.Sp, bool) {
	if !m.IsInt64() {
		return n, false
	}
	return api.Sp(m.Int64()), true
}

// P14.1: the three calls agree with exact arithmetic, up to both ends of the
// type, and return n where the exact result is outside it.
func TestMultiples(t *testing.T) {
	for _, x := range []struct {
		name string
		call func(n, step api.Sp) api.Sp
		want func(n, step *big.Int) *big.Int
	}{
		{"Up", Up, ceil},
		{"Down", Down, floor},
		{"Near", Near, nearest},
	} {
		inside, outside := 0, 0
		for _, step := range steps() {
			for _, n := range around(step) {
				want, ok := lengthOr(x.want(exact(n), exact(step)), n)
				if got := x.call(n, step); got != want {
					t.Fatalf("%s(%d, %d) is %d, not %d", x.name, n, step, got, want)
				}
				if ok {
					inside++
				} else {
					outside++
				}
			}
		}
		if inside == 0 || outside == 0 {
			t.Errorf("%s: %d results within the type, %d outside it: both are to be tested", x.name, inside, outside)
		}
	}
}

// P14.1: the chapter's examples, ties, signs and both ends of the type, written
// out.
func TestMultiplesWrittenOut(t *testing.T) {
	for _, x := range []struct{ n, step, up, down, near api.Sp }{
		{7, 6, 12, 6, 6},
		{3, 6, 6, 0, 6},
		{2, 6, 6, 0, 0},
		{4, 6, 6, 0, 6},
		{9, 6, 12, 6, 12},
		{0, 6, 0, 0, 0},
		{6, 6, 6, 6, 6},
		{12, 6, 12, 12, 12},
		{-1, 6, 0, -6, 0},
		{-2, 6, 0, -6, 0},
		{-3, 6, 0, -6, 0},
		{-4, 6, 0, -6, -6},
		{-6, 6, -6, -6, -6},
		{-9, 6, -6, -12, -6},
		{2, 5, 5, 0, 0},
		{3, 5, 5, 0, 5},
		{-2, 5, 0, -5, 0},
		{-3, 5, 0, -5, -5},
		{7, 1, 7, 7, 7},
		{-7, 1, -7, -7, -7},
		{most, 1, most, most, most},
		{least, 1, least, least, least},
		{1, 2, 2, 0, 2},
		{-1, 2, 0, -2, 0},
		// 2^63 is as near as 2^63 - 2, and is greater, but no length.
		{most, 2, most, most - 1, most},
		{least, 2, least, least, least},
		{least + 1, 2, least + 2, least, least + 2},
		// -2^63 - 1 and 2^63 - 2 are multiples of 3, and 2^63 - 1 is one of 7.
		{least, 3, least + 2, least, least},
		{least + 1, 3, least + 2, least + 1, least + 2},
		{most, 3, most, most - 1, most - 1},
		{most - 1, 3, most - 1, most - 1, most - 1},
		{most, 7, most, most, most},
		{least, 7, least + 1, least, least + 1},
		{most, 4, most, most - 3, most},
		{most - 1, 4, most - 1, most - 3, most - 1},
		{most - 2, 4, most - 2, most - 3, most - 3},
		{1, most, most, 0, 0},
		{-1, most, 0, -most, 0},
		{most / 2, most, most, 0, 0},
		{most/2 + 1, most, most, 0, most},
		{most, most, most, most, most},
		{least, most, -most, least, -most},
		{-most, most, -most, -most, -most},
		{most, most - 1, most, most - 1, most - 1},
		{1 << 61, 1 << 62, 1 << 62, 0, 1 << 62},
		{most, 1 << 62, most, 1 << 62, most},
		{3 << 61, 1 << 62, 3 << 61, 1 << 62, 3 << 61},
		{3<<61 - 1, 1 << 62, 3<<61 - 1, 1 << 62, 1 << 62},
		{least, 1 << 62, least, least, least},
		{dim, 1 << 29, 1 << 30, 1 << 29, 1 << 30},
	} {
		up, down, near := Up(x.n, x.step), Down(x.n, x.step), Near(x.n, x.step)
		if up != x.up || down != x.down || near != x.near {
			t.Errorf("%v: Up is %d, Down is %d, Near is %d", x, up, down, near)
		}
	}
}

// P14.1: a step below 1 changes nothing.
func TestNoStep(t *testing.T) {
	for _, step := range []api.Sp{0, -1, -2, -5, -6, -1 << 32, -most, least, least + 1} {
		for _, n := range around(6) {
			if up, down, near := Up(n, step), Down(n, step), Near(n, step); up != n || down != n || near != n {
				t.Fatalf("%d with the step %d: Up is %d, Down is %d, Near is %d", n, step, up, down, near)
			}
		}
	}
}

// geometry has another number in each of its fields.
func geometry(step api.Sp) api.Geom {
	return api.Geom{
		Cols: 2, Wide: 71, Gap: 5, High: 119, First: 83, Grid: step, Rule: 13, Sep: 25,
		NoteMost: 41, TopMost: 53, BotMost: 31, TopMany: 3, BotMany: 1,
		Club: 151, Widow: 161, Split: 173, Defer: 181, Spare: 191, Balance: true,
	}
}

// kinds are all kinds of items, and some that no item has.
func kinds() []int {
	return []int{
		api.KNone, api.KBox, api.KGlue, api.KPen, api.KMark, api.KNote, api.KFloat, api.KBarrier,
		8, 9, 1 << 32, 1<<32 + 1, 1<<32 + 2, math.MaxInt, -1, -2, math.MinInt, math.MinInt + 1, math.MinInt + 2,
	}
}

// full is an item of the kind k with another number in each of its fields.
func full(k int) api.Item { return api.Item{K: k, H: 7, F: 3, Str: 17, Ord: 2, Shr: 5, N: 29} }

// rough is a job that has everything and is off a grid of 6 everywhere.
func rough(step api.Sp) api.Job {
	j := api.Job{
		G: geometry(step),
		Notes: []api.Note{
			{Lines: []api.Sp{1, 6, 7}, Pens: []int{4, 10000}},
			{Lines: []api.Sp{13}},
			{},
			{Lines: []api.Sp{5, 11}, Pens: []int{}},
			{Pens: []int{7, -3}},
		},
		Floats: []api.Float{{C: 1, H: 13, Where: 3}, {C: 2, H: 12, Where: 1}, {C: -5, H: 1, Where: 77}},
	}
	for _, k := range kinds() {
		j.Items = append(j.Items, full(k))
	}
	return j
}

// P14.2: Snap changes what the chapter names, by its rule, and nothing else.
func TestSnap(t *testing.T) {
	j := rough(6)
	want := rough(6)
	want.G.High, want.G.First = 114, 78
	want.G.Rule, want.G.Sep = 18, 30
	for i, x := range want.Items {
		switch x.K {
		case 1:
			want.Items[i] = api.Item{K: 1, H: 12, F: 3, Str: 17, Ord: 2, Shr: 5, N: 29}
		case 2:
			want.Items[i] = api.Item{K: 2, H: 6, F: 3, N: 29}
		}
	}
	want.Notes = []api.Note{
		{Lines: []api.Sp{6, 6, 12}, Pens: []int{4, 10000}},
		{Lines: []api.Sp{18}},
		{},
		{Lines: []api.Sp{6, 12}, Pens: []int{}},
		{Pens: []int{7, -3}},
	}
	want.Floats = []api.Float{{C: 1, H: 18, Where: 3}, {C: 2, H: 12, Where: 1}, {C: -5, H: 6, Where: 77}}
	if got := Snap(j); !reflect.DeepEqual(got, want) {
		t.Errorf("Snap returns\n%v, not\n%v", got, want)
	}
}

// P14.2: each place is changed by its own rule: numbers of which Up, Down and
// Near make three different things, at both sides of a half.
func TestSnapRules(t *testing.T) {
	for _, x := range []struct{ n, step, up, down, near api.Sp }{
		{8, 6, 12, 6, 6},
		{9, 6, 12, 6, 12},
		{10, 6, 12, 6, 12},
		{12, 6, 12, 12, 12},
		{0, 6, 0, 0, 0},
		{-2, 6, 0, -6, 0},
		{-4, 6, 0, -6, -6},
		{8, 1, 8, 8, 8},
		{7, 5, 10, 5, 5},
		{8, 5, 10, 5, 10},
		{dim, 1 << 29, 1 << 30, 1 << 29, 1 << 30},
		{most, 3, most, most - 1, most - 1},
		{most, 2, most, most - 1, most},
		{least, 3, least + 2, least, least},
		{5, most, most, 0, 0},
	} {
		s := Snap(api.Job{
			G:      api.Geom{Grid: x.step, High: x.n, First: x.n, Rule: x.n, Sep: x.n},
			Items:  []api.Item{{K: api.KBox, H: x.n}, {K: api.KGlue, H: x.n}},
			Notes:  []api.Note{{Lines: []api.Sp{x.n}}},
			Floats: []api.Float{{H: x.n}},
		})
		want := api.Job{
			G:      api.Geom{Grid: x.step, High: x.down, First: x.down, Rule: x.up, Sep: x.up},
			Items:  []api.Item{{K: api.KBox, H: x.up}, {K: api.KGlue, H: x.near}},
			Notes:  []api.Note{{Lines: []api.Sp{x.up}}},
			Floats: []api.Float{{H: x.up}},
		}
		if !reflect.DeepEqual(s, want) {
			t.Errorf("%v: Snap returns\n%v, not\n%v", x, s, want)
		}
	}
}

// P14.2: a glue becomes rigid, whatever its numbers are.
func TestSnapGlue(t *testing.T) {
	for _, step := range []api.Sp{1, 6, most} {
		for _, x := range []api.Item{
			{Str: 6}, {Str: -1}, {Str: most}, {Ord: 1}, {Ord: 3}, {Ord: -7}, {Ord: math.MaxInt}, {Shr: 6}, {Shr: 1}, {Shr: least},
		} {
			x.K = api.KGlue
			if s := Snap(api.Job{G: api.Geom{Grid: step}, Items: []api.Item{x}}); len(s.Items) != 1 || s.Items[0] != (api.Item{K: api.KGlue}) {
				t.Errorf("with the step %d, %v becomes %v", step, x, s.Items)
			}
		}
	}
}

// P14.2: with a step below 1 Snap returns the same job.
func TestSnapWithoutGrid(t *testing.T) {
	for _, step := range []api.Sp{0, -1, -6, -most, least} {
		if got, want := Snap(rough(step)), rough(step); !reflect.DeepEqual(got, want) {
			t.Errorf("with the step %d, Snap returns\n%v, not\n%v", step, got, want)
		}
		if got := Snap(api.Job{G: api.Geom{Grid: step}}); !reflect.DeepEqual(got, api.Job{G: api.Geom{Grid: step}}) {
			t.Errorf("with the step %d, Snap returns %v for a job without lists", step, got)
		}
	}
}

// P14.2, P3: Snap of a job with nil or empty lists has empty lists.
func TestSnapOfNothing(t *testing.T) {
	for _, j := range []api.Job{
		{G: api.Geom{Grid: 6}},
		{G: api.Geom{Grid: 6}, Items: []api.Item{}, Notes: []api.Note{}, Floats: []api.Float{}},
	} {
		if s := Snap(j); s.G != j.G || len(s.Items)+len(s.Notes)+len(s.Floats) != 0 {
			t.Errorf("Snap(%v) is %v", j, s)
		}
	}
}

// P4: the job that was passed, with its lists and those in its notes, is as it
// was.
func TestJobIsNotModified(t *testing.T) {
	for _, step := range []api.Sp{-1, 0, 1, 6, 10, 1 << 29, most} {
		j, before := rough(step), rough(step)
		Snap(j)
		On(j)
		Same(j, rough(step))
		Same(rough(6), j)
		if !reflect.DeepEqual(j, before) {
			t.Errorf("with the step %d, the job has become\n%v, not\n%v", step, j, before)
		}
	}
}

// What Snap returns is new memory, with a grid and without one.
func TestSnapSharesNothing(t *testing.T) {
	for _, step := range []api.Sp{0, 6} {
		j, before := rough(step), rough(step)
		s := Snap(j)
		clear(s.Items)
		clear(s.Floats)
		for _, n := range s.Notes {
			clear(n.Lines)
			clear(n.Pens)
		}
		clear(s.Notes)
		if !reflect.DeepEqual(j, before) {
			t.Errorf("with the step %d, the job has changed with its result", step)
		}
	}
}

// level is a job on a grid of 6 with numbers other than multiples of 6 wherever
// it may have them.
func level() api.Job {
	return api.Job{
		G: api.Geom{
			Cols: 1, Wide: 71, Gap: 5, High: 120, First: 84, Grid: 6, Rule: 6, Sep: 12,
			NoteMost: 41, TopMost: 53, BotMost: 31, TopMany: 3, BotMany: 1,
			Club: 151, Widow: 161, Split: 173, Defer: 181, Spare: 191, Balance: true,
		},
		Items: []api.Item{
			{K: api.KBox, H: 12, F: 1}, {K: api.KGlue, H: 6}, {K: api.KPen, N: 50}, {K: api.KMark, N: 7},
			{K: api.KNote}, {K: api.KFloat, N: 1}, {K: api.KBarrier}, {K: api.KGlue}, {K: api.KBox, H: 18, F: 2},
		},
		Notes:  []api.Note{{Lines: []api.Sp{6, 12, 6}, Pens: []int{1, 2}}, {Lines: []api.Sp{18}}},
		Floats: []api.Float{{C: 1, H: 24, Where: 1}, {C: 0, H: 30, Where: 3}},
	}
}

// lengths are the places of a level job that must be multiples of the step.
func lengths(j *api.Job) map[string]*api.Sp {
	return map[string]*api.Sp{
		"High":                       &j.G.High,
		"First":                      &j.G.First,
		"Rule":                       &j.G.Rule,
		"Sep":                        &j.G.Sep,
		"H of the first box":         &j.Items[0].H,
		"H of the last box":          &j.Items[8].H,
		"H of the first glue":        &j.Items[1].H,
		"H of the last glue":         &j.Items[7].H,
		"the first line of a note":   &j.Notes[0].Lines[0],
		"the second line of a note":  &j.Notes[0].Lines[1],
		"the last line of a note":    &j.Notes[0].Lines[2],
		"the line of the last note":  &j.Notes[1].Lines[0],
		"the height of a float":      &j.Floats[0].H,
		"the height of the last one": &j.Floats[1].H,
	}
}

// rigid are the numbers of glues of a level job that must be 0.
func rigid() map[string]func(j *api.Job, n int) {
	return map[string]func(j *api.Job, n int){
		"Str of the first glue": func(j *api.Job, n int) { j.Items[1].Str = api.Sp(n) },
		"Ord of the first glue": func(j *api.Job, n int) { j.Items[1].Ord = n },
		"Shr of the first glue": func(j *api.Job, n int) { j.Items[1].Shr = api.Sp(n) },
		"Str of the last glue":  func(j *api.Job, n int) { j.Items[7].Str = api.Sp(n) },
		"Ord of the last glue":  func(j *api.Job, n int) { j.Items[7].Ord = n },
		"Shr of the last glue":  func(j *api.Job, n int) { j.Items[7].Shr = api.Sp(n) },
	}
}

// P14.2: a job with exactly one length that is no multiple of its step is not on
// the grid, and with any multiple it is; without a grid it always is.
func TestOnLengths(t *testing.T) {
	names := level()
	for name := range lengths(&names) {
		for _, n := range []api.Sp{1, 3, 5, 7, 11, 13, -1, -3, -5, -7, dim, most, least, most - 2, least + 1} {
			j := level()
			*lengths(&j)[name] = n
			if On(j) {
				t.Errorf("%s is %d: on the grid", name, n)
			}
			for _, step := range []api.Sp{0, -1, -6, least} {
				j.G.Grid = step
				if !On(j) {
					t.Errorf("%s is %d, the step %d: not on the grid", name, n, step)
				}
			}
		}
		for _, n := range []api.Sp{0, 6, 12, -6, -12, 600, most - 1, least + 2} {
			j := level()
			*lengths(&j)[name] = n - n%6
			if !On(j) {
				t.Errorf("%s is %d: not on the grid", name, n-n%6)
			}
		}
	}
}

// P14.2: a job with exactly one glue that is not rigid is not on the grid, even
// if its stretch or shrink is a multiple of the step.
func TestOnGlues(t *testing.T) {
	for name, set := range rigid() {
		for _, n := range []int{1, 2, 3, 6, 12, -1, -6, math.MaxInt, math.MinInt, 1 << 32} {
			for _, step := range []api.Sp{1, 2, 6} {
				j := level()
				j.G.Grid = step
				set(&j, n)
				if On(j) {
					t.Errorf("%s is %d, the step %d: on the grid", name, n, step)
				}
			}
			j := level()
			j.G.Grid = 0
			set(&j, n)
			if !On(j) {
				t.Errorf("%s is %d, without a grid: not on it", name, n)
			}
		}
	}
}

// P14.2: nothing else keeps a job off its grid.
func TestOnElsewhere(t *testing.T) {
	for _, j := range []api.Job{
		level(),
		{},
		{G: api.Geom{Grid: 6}},
		{G: api.Geom{Grid: 6}, Items: []api.Item{}, Notes: []api.Note{{}, {Lines: []api.Sp{}}}, Floats: []api.Float{{}}},
		{G: api.Geom{Grid: most}},
		{G: api.Geom{Grid: most, High: most, First: -most}},
		rough(0),
		rough(-1),
		rough(least),
	} {
		if !On(j) {
			t.Errorf("not on the grid: %v", j)
		}
	}
	for _, k := range kinds() {
		j := level()
		x := full(k)
		if k == api.KBox || k == api.KGlue {
			x = api.Item{K: k, H: 6, F: 5, N: 5}
		}
		if k == api.KBox {
			x.Str, x.Ord, x.Shr = 1, 2, 3
		}
		j.Items = append(j.Items, x)
		if !On(j) {
			t.Errorf("%v keeps a job off its grid", x)
		}
	}
	if On(rough(6)) || On(rough(most)) {
		t.Error("a rough job is on a grid")
	}
}

// P14.2: other steps than that of the job do not count, and 1 suits all heights.
func TestOnSteps(t *testing.T) {
	for step, want := range map[api.Sp]bool{1: true, 2: true, 3: true, 6: true, 4: false, 5: false, 7: false, 12: false, 1 << 32: false, most: false} {
		j := level()
		j.G.Grid = step
		if On(j) != want {
			t.Errorf("with the step %d, On is %v", step, !want)
		}
	}
}

// P14.2: a length for which there is no multiple stays, and is not on the grid.
func TestOnIsNotUnchanged(t *testing.T) {
	j := api.Job{G: api.Geom{Grid: 2}, Items: []api.Item{{K: api.KBox, H: most}}}
	if s := Snap(j); s.Items[0].H != most || On(s) {
		t.Errorf("the box has become %d, On is %v", s.Items[0].H, On(s))
	}
}

// change adds 1 to a number, or turns a bool.
func change(v reflect.Value) {
	if v.Kind() == reflect.Bool {
		v.SetBool(!v.Bool())
		return
	}
	v.SetInt(v.Int() + 1)
}

// fieldsOf returns the fields of the struct that p points to.
func fieldsOf(p any) []reflect.Value {
	v := reflect.ValueOf(p).Elem()
	var l []reflect.Value
	for i := range v.NumField() {
		l = append(l, v.Field(i))
	}
	return l
}

// numbersOf returns every number and bool of a job, also those of its lists.
func numbersOf(j *api.Job) []reflect.Value {
	l := fieldsOf(&j.G)
	for i := range j.Items {
		l = append(l, fieldsOf(&j.Items[i])...)
	}
	for i := range j.Floats {
		l = append(l, fieldsOf(&j.Floats[i])...)
	}
	for i := range j.Notes {
		for k := range j.Notes[i].Lines {
			l = append(l, reflect.ValueOf(&j.Notes[i].Lines[k]).Elem())
		}
		for k := range j.Notes[i].Pens {
			l = append(l, reflect.ValueOf(&j.Notes[i].Pens[k]).Elem())
		}
	}
	return l
}

// wantSame asks in both orders.
func wantSame(t *testing.T, a, b api.Job, want bool) {
	t.Helper()
	if Same(a, b) != want || Same(b, a) != want {
		t.Errorf("Same is %v and %v for\n%v and\n%v", Same(a, b), Same(b, a), a, b)
	}
}

// P14.2: jobs are equal if all their numbers are, on a grid or not.
func TestSame(t *testing.T) {
	for _, step := range []api.Sp{least, -1, 0, 1, 6, most} {
		wantSame(t, rough(step), rough(step), true)
		j := rough(step)
		wantSame(t, j, j, true)
		wantSame(t, j, Snap(j), step < 1)
	}
	wantSame(t, level(), level(), true)
	wantSame(t, level(), rough(6), false)
	wantSame(t, api.Job{}, api.Job{}, true)
	wantSame(t, api.Job{}, level(), false)
}

// P14.2: jobs that differ in exactly one number are not equal.
func TestSameOneNumber(t *testing.T) {
	first := level()
	// 19 numbers of the geometry, 9 items of 7, 2 floats of 3, and 6 of notes.
	if n := len(numbersOf(&first)); n != 19+9*7+2*3+6 {
		t.Fatalf("there are %d numbers", n)
	}
	for i := range numbersOf(&first) {
		j := level()
		change(numbersOf(&j)[i])
		wantSame(t, level(), j, false)
		wantSame(t, j, j, true)
	}
}

// P14.2: jobs whose lists have different lengths, or another order, are not
// equal.
func TestSameLists(t *testing.T) {
	for name, do := range map[string]func(j *api.Job){
		"an item more":             func(j *api.Job) { j.Items = append(j.Items, api.Item{}) },
		"an item less":             func(j *api.Job) { j.Items = j.Items[:8] },
		"without the first item":   func(j *api.Job) { j.Items = j.Items[1:] },
		"no items":                 func(j *api.Job) { j.Items = nil },
		"items swapped":            func(j *api.Job) { j.Items[0], j.Items[1] = j.Items[1], j.Items[0] },
		"a note more":              func(j *api.Job) { j.Notes = append(j.Notes, api.Note{}) },
		"a note less":              func(j *api.Job) { j.Notes = j.Notes[:1] },
		"without the first note":   func(j *api.Job) { j.Notes = j.Notes[1:] },
		"no notes":                 func(j *api.Job) { j.Notes = []api.Note{} },
		"notes swapped":            func(j *api.Job) { j.Notes[0], j.Notes[1] = j.Notes[1], j.Notes[0] },
		"a line more":              func(j *api.Job) { j.Notes[1].Lines = append(j.Notes[1].Lines, 0) },
		"a line less":              func(j *api.Job) { j.Notes[0].Lines = j.Notes[0].Lines[:2] },
		"no lines":                 func(j *api.Job) { j.Notes[1].Lines = nil },
		"lines swapped":            func(j *api.Job) { l := j.Notes[0].Lines; l[0], l[1] = l[1], l[0] },
		"a penalty more":           func(j *api.Job) { j.Notes[1].Pens = append(j.Notes[1].Pens, 0) },
		"a penalty less":           func(j *api.Job) { j.Notes[0].Pens = j.Notes[0].Pens[:1] },
		"no penalties":             func(j *api.Job) { j.Notes[0].Pens = nil },
		"penalties swapped":        func(j *api.Job) { l := j.Notes[0].Pens; l[0], l[1] = l[1], l[0] },
		"a float more":             func(j *api.Job) { j.Floats = append(j.Floats, api.Float{}) },
		"a float less":             func(j *api.Job) { j.Floats = j.Floats[:1] },
		"without the first float":  func(j *api.Job) { j.Floats = j.Floats[1:] },
		"no floats":                func(j *api.Job) { j.Floats = nil },
		"floats swapped":           func(j *api.Job) { j.Floats[0], j.Floats[1] = j.Floats[1], j.Floats[0] },
		"a line in another note":   func(j *api.Job) { move(&j.Notes[0].Lines, &j.Notes[1].Lines) },
		"a penalty in another one": func(j *api.Job) { move(&j.Notes[0].Pens, &j.Notes[1].Pens) },
	} {
		t.Run(name, func(t *testing.T) {
			j := level()
			do(&j)
			wantSame(t, level(), j, false)
			wantSame(t, j, j, true)
		})
	}
}

// move takes the last element of a and puts it before those of b.
func move[T any](a, b *[]T) {
	end := len(*a) - 1
	*b = append([]T{(*a)[end]}, *b...)
	*a = (*a)[:end]
}

// P3, P14.2: nil and empty lists are equal, also within notes.
func TestSameEmptyLists(t *testing.T) {
	wantSame(t, api.Job{}, api.Job{Items: []api.Item{}}, true)
	wantSame(t, api.Job{}, api.Job{Notes: []api.Note{}}, true)
	wantSame(t, api.Job{}, api.Job{Floats: []api.Float{}}, true)
	wantSame(t, api.Job{Notes: []api.Note{{}}}, api.Job{Notes: []api.Note{{Lines: []api.Sp{}}}}, true)
	wantSame(t, api.Job{Notes: []api.Note{{}}}, api.Job{Notes: []api.Note{{Pens: []int{}}}}, true)
	wantSame(t, api.Job{Notes: []api.Note{{}}}, api.Job{}, false)
	a, b := level(), level()
	a.Notes[1].Pens, b.Notes[1].Pens = nil, []int{}
	wantSame(t, a, b, true)
}

// heights are lengths from 0 to MaxDim at which the multiples of step change.
func heights(step api.Sp) []api.Sp {
	l := []api.Sp{0, 1, 2, dim / 2, dim - 1, dim}
	for _, n := range []api.Sp{step / 2, step, step + step/2, 2 * step, dim - dim%step, dim - dim%step - step/2} {
		l = append(l, n-1, n, n+1)
	}
	return slices.DeleteFunc(l, func(n api.Sp) bool { return n < 0 || n > dim })
}

// P14.3: for lengths from 0 to MaxDim the result of Snap is on the grid, and
// Snap does not change it again.
func TestSnapIsOn(t *testing.T) {
	for _, step := range []api.Sp{0, 1, 2, 3, 5, 6, 10, 1<<29 - 1, 1 << 29, 1<<29 + 1, dim - 1, dim} {
		l := heights(step + 1)
		if step > 0 {
			l = heights(step)
		}
		at := func(i int) api.Sp { return l[i%len(l)] }
		for i := range l {
			j := api.Job{
				G: api.Geom{
					Grid: step, High: at(i), First: at(i + 1), Rule: at(i + 2), Sep: at(i + 3),
					Wide: at(i + 4), Gap: at(i + 5), NoteMost: at(i + 6), TopMost: at(i + 7), BotMost: at(i + 8),
				},
				Notes:  []api.Note{{Lines: l, Pens: []int{1, 2, 3}}, {Lines: []api.Sp{at(i)}}},
				Floats: []api.Float{{H: at(i + 1), Where: 3}, {H: at(i + 2), C: 2}},
			}
			for _, k := range kinds() {
				j.Items = append(j.Items, api.Item{K: k, H: at(i + 3), F: 1, Str: at(i + 4), Ord: i % 4, Shr: at(i + 5), N: i})
			}
			wantSnapped(t, j)
		}
	}
}

func wantSnapped(t *testing.T, j api.Job) {
	t.Helper()
	s := Snap(j)
	if !On(s) {
		t.Errorf("the result of Snap is not on its grid:\n%v", s)
	}
	wantSnappedOnce(t, s)
}

func wantSnappedOnce(t *testing.T, s api.Job) {
	t.Helper()
	if again := Snap(s); !reflect.DeepEqual(again, s) || !Same(again, s) {
		t.Errorf("Snap has changed its own result:\n%v\nto\n%v", s, again)
	}
}

// P14.3: Snap does not change its result again, also where lengths are not
// those of a job and some have no multiple.
func TestSnapAgain(t *testing.T) {
	for _, step := range append(steps(), 0, -1, least) {
		wantSnappedOnce(t, Snap(rough(step)))
		wantSnappedOnce(t, Snap(level()))
		l := around(max(step, 1))
		for i, n := range l {
			m := l[(i+1)%len(l)]
			wantSnappedOnce(t, Snap(api.Job{
				G:      api.Geom{Grid: step, High: n, First: m, Rule: n, Sep: m},
				Items:  []api.Item{{K: api.KBox, H: n}, {K: api.KGlue, H: n, Str: m, Ord: 2, Shr: n}},
				Notes:  []api.Note{{Lines: []api.Sp{n, m}}},
				Floats: []api.Float{{H: n}},
			}))
		}
	}
}

// P14.3: the lengths that the grid governs change by less than a step, and a
// column is not higher than before, a box not lower.
func TestSnapByLessThanAStep(t *testing.T) {
	for _, step := range []api.Sp{1, 2, 5, 6, 10, 1 << 29} {
		for _, n := range heights(step) {
			s := Snap(api.Job{G: api.Geom{Grid: step, High: n}, Items: []api.Item{{K: api.KBox, H: n}, {K: api.KGlue, H: n}}})
			high, box, glue := s.G.High, s.Items[0].H, s.Items[1].H
			if high > n || n-high >= step || box < n || box-n >= step || 2*(glue-n) > step || 2*(n-glue) >= step {
				t.Errorf("%d with the step %d: a column of %d, a box of %d, a glue of %d", n, step, high, box, glue)
			}
		}
	}
}
