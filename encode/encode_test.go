package encode

import (
	"bytes"
	"encoding/binary"
	"fmt"
	"maps"
	"math"
	"reflect"
	"slices"
	"testing"

	"tympan/api"
	"tympan/geom"
	"tympan/item"
)

// numbers are of every size, those about which the number of bytes of a chain
// changes, and both ends of the range. Most of them are in no valid job.
func numbers() []int64 {
	l := []int64{0, 1, -1, 2, -2, 3, 4, -10000, 10000, 1 << 20, 1 << 30, 1 << 50,
		math.MinInt64, math.MinInt64 + 1, math.MaxInt64 - 1, math.MaxInt64}
	for k := 6; k < 63; k += 7 {
		l = append(l, 1<<k-1, 1<<k, -1<<k, -1<<k-1)
	}
	return l
}

// chains returns the chains of the numbers, one after another. The library's
// variable-length integers are those of chapter 5.
func chains(l ...int64) []byte {
	b := []byte{}
	for _, n := range l {
		b = binary.AppendVarint(b, n)
	}
	return b
}

// names are the fields of an item besides its kind.
func names() []string { return []string{"H", "F", "Str", "Ord", "Shr", "N"} }

// owns returns the fields of each kind in the chapter's order.
func owns(k int) []string {
	switch k {
	case 1:
		return []string{"H", "F"}
	case 2:
		return []string{"H", "Str", "Ord", "Shr"}
	case 3, 4, 5, 6:
		return []string{"N"}
	}
	return nil
}

// geomNames are the fields of a geometry in the chapter's order, but for
// Balance, which follows them.
func geomNames() []string {
	return []string{"Cols", "Wide", "Gap", "High", "First", "Grid", "Rule", "Sep", "NoteMost",
		"TopMost", "BotMost", "TopMany", "BotMany", "Club", "Widow", "Split", "Defer", "Spare"}
}

// with returns x with the field of that name set to n.
func with[T api.Item | api.Geom](x T, name string, n int64) T {
	reflect.ValueOf(&x).Elem().FieldByName(name).SetInt(n)
	return x
}

// value returns the field of x of that name.
func value[T api.Item | api.Geom](x T, name string) int64 {
	return reflect.ValueOf(x).FieldByName(name).Int()
}

// wantGeom is the encoding of a geometry by the chapter's text.
func wantGeom(g api.Geom) []byte {
	b := []byte{}
	for _, name := range geomNames() {
		b = append(b, chains(value(g, name))...)
	}
	if g.Balance {
		return append(b, 1)
	}
	return append(b, 0)
}

// wantItems is the encoding of bare items by the chapter's text.
func wantItems(l []api.Item) []byte {
	b := chains(int64(len(l)))
	for _, x := range l {
		b = append(b, chains(int64(x.K))...)
		for _, name := range owns(x.K) {
			b = append(b, chains(value(x, name))...)
		}
	}
	return b
}

// wantJob is the encoding of a job with bare items by the chapter's text.
func wantJob(j api.Job) []byte {
	b := append([]byte("TYM1"), wantGeom(j.G)...)
	b = append(b, wantItems(j.Items)...)
	b = append(b, chains(int64(len(j.Notes)))...)
	for _, n := range j.Notes {
		b = append(b, chains(int64(len(n.Lines)))...)
		for _, h := range n.Lines {
			b = append(b, chains(int64(h))...)
		}
		b = append(b, chains(int64(len(n.Pens)))...)
		for _, p := range n.Pens {
			b = append(b, chains(int64(p))...)
		}
	}
	b = append(b, chains(int64(len(j.Floats)))...)
	for _, f := range j.Floats {
		b = append(b, chains(int64(f.C), int64(f.H), int64(f.Where))...)
	}
	return b
}

// distinct is a geometry in which no two numbers are the same.
func distinct() api.Geom {
	var g api.Geom
	for i, name := range geomNames() {
		g = with(g, name, int64(100+i))
	}
	return g
}

// sound is an item of each kind, in which no field of the kind is 0.
func sound() []api.Item {
	return []api.Item{
		item.Box(10, 2), item.Glue(9, 7, 2, 5), item.Pen(50), item.Mark(8), item.Note(6), item.Float(4), item.Barrier(),
	}
}

// odd are items that are not bare, by their kinds or by their fields.
func odd() []api.Item {
	return []api.Item{
		{}, {K: -1}, {K: 8}, {K: math.MinInt}, {K: math.MaxInt}, {K: api.KBox, N: 1}, {K: api.KGlue, F: 1},
		{K: api.KPen, H: 1}, {K: api.KMark, Shr: -1}, {K: api.KNote, Str: 2}, {K: api.KFloat, Ord: 3}, {K: api.KBarrier, N: 1},
	}
}

// full is a job that has everything.
func full() api.Job {
	return api.Job{
		G:     distinct(),
		Items: sound(),
		Notes: []api.Note{
			{Lines: []api.Sp{4, 5, 6}, Pens: []int{30, 40}},
			{Lines: []api.Sp{7}},
			{Pens: []int{1, 2}},
			{},
		},
		Floats: []api.Float{{C: 0, H: 11, Where: 1}, {C: 1, H: 12, Where: 2}, {C: 2, H: 13, Where: 3}},
	}
}

// wild is a job that is as far from valid as can be encoded.
func wild() api.Job {
	var j api.Job
	for i, name := range geomNames() {
		j.G = with(j.G, name, numbers()[i])
	}
	for _, n := range numbers() {
		h, k := api.Sp(n), int(n)
		j.Items = append(j.Items, item.Box(h, k), item.Glue(h, h, k, h), item.Pen(k), item.Mark(k), item.Note(k), item.Float(k))
		j.Notes = append(j.Notes, api.Note{Lines: []api.Sp{h, -h}, Pens: []int{k, k, k}})
		j.Floats = append(j.Floats, api.Float{C: k, H: h, Where: k})
	}
	return j
}

// extreme is a small job of the least and the greatest numbers.
func extreme() api.Job {
	const least, most = math.MinInt, math.MaxInt
	return api.Job{
		G:      api.Geom{Cols: least, Wide: most, High: most, First: least, NoteMost: -1, Split: most, Spare: least, Balance: true},
		Items:  []api.Item{item.Box(least, most), item.Glue(most, least, least, most), item.Pen(least), item.Float(most)},
		Notes:  []api.Note{{Lines: []api.Sp{least, most}, Pens: []int{most}}, {Pens: []int{least, least}}},
		Floats: []api.Float{{C: most, H: least, Where: most}, {C: least, H: most, Where: least}},
	}
}

// jobs are of every form.
func jobs() map[string]api.Job {
	f := full()
	return map[string]api.Job{
		"zero":        {},
		"geometry":    {G: f.G},
		"items":       {G: f.G, Items: f.Items},
		"notes":       {G: f.G, Notes: f.Notes},
		"floats":      {G: f.G, Floats: f.Floats},
		"no items":    {G: f.G, Notes: f.Notes, Floats: f.Floats},
		"no notes":    {G: f.G, Items: f.Items, Floats: f.Floats},
		"no floats":   {G: f.G, Items: f.Items, Notes: f.Notes},
		"full":        f,
		"wild":        wild(),
		"extreme":     extreme(),
		"plain":       {G: geom.Plain(2, 100), Items: []api.Item{item.Box(3, 0)}},
		"lines alone": {Notes: []api.Note{{Lines: []api.Sp{1, 2}}}},
		"pens alone":  {Notes: []api.Note{{Pens: []int{1, 2}}}},
		"bare notes":  {Notes: []api.Note{{}, {}, {}}},
	}
}

// clone returns a job that shares no memory with j.
func clone(j api.Job) api.Job {
	j.Items = slices.Clone(j.Items)
	j.Floats = slices.Clone(j.Floats)
	j.Notes = slices.Clone(j.Notes)
	for i, n := range j.Notes {
		j.Notes[i] = api.Note{Lines: slices.Clone(n.Lines), Pens: slices.Clone(n.Pens)}
	}
	return j
}

// equal reports whether two jobs are the same, where nil and empty lists are.
func equal(a, b api.Job) bool {
	return a.G == b.G && slices.Equal(a.Items, b.Items) && slices.Equal(a.Floats, b.Floats) &&
		slices.EqualFunc(a.Notes, b.Notes, func(m, n api.Note) bool {
			return slices.Equal(m.Lines, n.Lines) && slices.Equal(m.Pens, n.Pens)
		})
}

// expectItems holds Items against what is wanted, or against nothing if want is
// nil.
func expectItems(t *testing.T, what string, l []api.Item, want []byte) {
	t.Helper()
	if b, ok := Items(l); ok != (want != nil) || !bytes.Equal(b, want) {
		t.Errorf("%s: Items is %v, %v, not %v", what, b, ok, want)
	}
}

// expectJob holds Job against what is wanted, or against nothing if want is nil.
func expectJob(t *testing.T, what string, j api.Job, want []byte) {
	t.Helper()
	if b, ok := Job(j); ok != (want != nil) || !bytes.Equal(b, want) {
		t.Errorf("%s: Job is %v, %v, not %v", what, b, ok, want)
	}
}

// P16.1: the chapter's example.
func TestExample(t *testing.T) {
	expectItems(t, "box 3 and barrier", []api.Item{item.Box(3, 0), item.Barrier()}, []byte{4, 2, 6, 0, 14})
}

// P16.1: Magic returns TYM1, and jobs begin with it.
func TestMagic(t *testing.T) {
	if m := Magic(); m != "TYM1" {
		t.Errorf("Magic is %q", m)
	}
	for name, j := range jobs() {
		if b, ok := Job(j); !ok || !bytes.HasPrefix(b, []byte{'T', 'Y', 'M', '1'}) {
			t.Errorf("%s: Job begins with %q", name, b[:min(4, len(b))])
		}
	}
}

// P16.1: an item of each kind is bare with any numbers in its own fields, and
// each number of each of them is encoded.
func TestOwnFields(t *testing.T) {
	for _, x := range sound() {
		for _, base := range []api.Item{x, {K: x.K}} {
			if !Bare(base) {
				t.Errorf("%+v is not bare", base)
			}
			expectItems(t, fmt.Sprint(base), []api.Item{base}, wantItems([]api.Item{base}))
			for _, name := range owns(x.K) {
				for _, n := range numbers() {
					y := with(base, name, n)
					if !Bare(y) {
						t.Errorf("%+v is not bare", y)
					}
					expectItems(t, fmt.Sprint(y), []api.Item{y}, wantItems([]api.Item{y}))
				}
			}
		}
	}
}

// P16.1: an item is not bare if a single field that its kind does not have is
// not 0, whatever the number is, and whatever the other fields are.
func TestOtherFields(t *testing.T) {
	for _, x := range sound() {
		for _, base := range []api.Item{x, {K: x.K}} {
			for _, name := range names() {
				if slices.Contains(owns(x.K), name) {
					continue
				}
				for _, n := range numbers() {
					y := with(base, name, n)
					if Bare(y) != (n == 0) {
						t.Errorf("Bare(%+v) is %v", y, Bare(y))
					}
					if n != 0 {
						expectItems(t, fmt.Sprint(y), []api.Item{y}, nil)
						expectJob(t, fmt.Sprint(y), api.Job{Items: []api.Item{y}}, nil)
					}
				}
			}
		}
	}
}

// P16.1: several fields that the kind does not have do not cancel out.
func TestOtherFieldsTogether(t *testing.T) {
	for k := 1; k <= 7; k++ {
		for _, one := range names() {
			for _, two := range names() {
				x := with(with(api.Item{K: k}, one, 5), two, -5)
				want := slices.Contains(owns(k), one) && slices.Contains(owns(k), two)
				if Bare(x) != want {
					t.Errorf("Bare(%+v) is %v", x, !want)
				}
			}
		}
	}
}

// P16.1: no item of another kind is bare, with fields or without.
func TestOtherKinds(t *testing.T) {
	for _, k := range []int{0, -1, -2, -7, -8, 8, 9, 16, 255, 256, 257, 1<<32 + 1, -1 << 32, math.MinInt, math.MinInt + 1, math.MaxInt} {
		l := append(sound(), api.Item{})
		for _, x := range l {
			x.K = k
			if Bare(x) {
				t.Errorf("%+v is bare", x)
			}
			expectItems(t, fmt.Sprint(x), []api.Item{x}, nil)
		}
	}
}

// P16.1: each of the nineteen fields of a geometry, changed alone, changes the
// chain at its own place.
func TestGeomFields(t *testing.T) {
	if n := reflect.TypeFor[api.Geom]().NumField(); n != len(geomNames())+1 {
		t.Fatalf("a geometry has %d fields", n)
	}
	for _, base := range []api.Geom{{}, distinct(), geom.Plain(1, 3), geom.Plain(8, 1<<30-1)} {
		for _, base.Balance = range []bool{false, true} {
			if b := Geom(base); !bytes.Equal(b, wantGeom(base)) {
				t.Errorf("Geom(%+v) is %v", base, b)
			}
			for _, name := range geomNames() {
				for _, n := range numbers() {
					g := with(base, name, n)
					if b := Geom(g); !bytes.Equal(b, wantGeom(g)) {
						t.Errorf("Geom(%+v) is %v", g, b)
					}
				}
			}
		}
	}
}

// P16.1: the bytes of geometries, written out.
func TestGeomBytes(t *testing.T) {
	for _, c := range []struct {
		g    api.Geom
		want []byte
	}{
		{api.Geom{}, make([]byte, 19)},
		{api.Geom{Balance: true}, append(make([]byte, 18), 1)},
		{
			api.Geom{Cols: 1, Wide: 2, Gap: 3, High: 4, First: 5, Grid: 6, Rule: 7, Sep: 8, NoteMost: 9, TopMost: 10, BotMost: 11,
				TopMany: 12, BotMany: 13, Club: 14, Widow: 15, Split: 16, Defer: 17, Spare: 18, Balance: true},
			[]byte{2, 4, 6, 8, 10, 12, 14, 16, 18, 20, 22, 24, 26, 28, 30, 32, 34, 36, 1},
		},
		{
			api.Geom{Cols: -1, Wide: -2, Gap: -64, High: 64, Spare: -65},
			[]byte{1, 3, 127, 128, 1, 0, 0, 0, 0, 0, 0, 0, 0, 0, 0, 0, 0, 0, 129, 1, 0},
		},
	} {
		if b := Geom(c.g); !bytes.Equal(b, c.want) {
			t.Errorf("Geom(%+v) is %v, not %v", c.g, b, c.want)
		}
	}
}

// P16.1: no items, nil or empty, are encoded as the chain of 0.
func TestNoItems(t *testing.T) {
	expectItems(t, "nil", nil, []byte{0})
	expectItems(t, "empty", []api.Item{}, []byte{0})
	expectItems(t, "with room", sound()[:0], []byte{0})
}

// P16.1: the bytes of an item of each kind, written out.
func TestItemBytes(t *testing.T) {
	for _, c := range []struct {
		x    api.Item
		want []byte
	}{
		{item.Box(10, 2), []byte{2, 2, 20, 4}},
		{item.Box(-1, -64), []byte{2, 2, 1, 127}},
		{item.Glue(1, 2, 3, 4), []byte{2, 4, 2, 4, 6, 8}},
		{item.Glue(64, 0, 0, -65), []byte{2, 4, 128, 1, 0, 0, 129, 1}},
		{item.Pen(-10000), []byte{2, 6, 159, 156, 1}},
		{item.Mark(3), []byte{2, 8, 6}},
		{item.Note(4), []byte{2, 10, 8}},
		{item.Float(5), []byte{2, 12, 10}},
		{item.Barrier(), []byte{2, 14}},
		{item.Mark(math.MaxInt), []byte{2, 8, 254, 255, 255, 255, 255, 255, 255, 255, 255, 1}},
		{item.Mark(math.MinInt), []byte{2, 8, 255, 255, 255, 255, 255, 255, 255, 255, 255, 1}},
	} {
		expectItems(t, fmt.Sprint(c.x), []api.Item{c.x}, c.want)
	}
}

// P16.1: many items, also more than a job may have, and numbers of items about
// which the number of bytes of their chain changes.
func TestManyItems(t *testing.T) {
	var l []api.Item
	for i := range 3*api.MaxItems + 1 {
		l = append(l, sound()[i%7])
	}
	l = append(l, wild().Items...)
	for _, n := range []int{1, 2, 7, 8, 63, 64, 65, 4095, 4096, 4097, 8191, 8192, 8193, len(l)} {
		expectItems(t, fmt.Sprint(n), l[:n], wantItems(l[:n]))
	}
}

// P16.1: Items and Job return nothing and false if the first, a middle or the
// last item is not bare, or more than one, whatever the notes and the floats
// are.
func TestOddItems(t *testing.T) {
	for _, x := range odd() {
		if Bare(x) {
			t.Errorf("%+v is bare", x)
		}
		for at := range sound() {
			l := sound()
			l[at] = x
			expectItems(t, fmt.Sprint(x, " at ", at), l, nil)
			for name, j := range jobs() {
				j.Items = l
				expectJob(t, fmt.Sprint(name, ", ", x, " at ", at), j, nil)
			}
		}
		expectItems(t, fmt.Sprint(x), []api.Item{x}, nil)
		expectItems(t, fmt.Sprint(x, " twice"), []api.Item{x, item.Box(1, 0), x}, nil)
		for name, j := range jobs() {
			j.Items = []api.Item{x}
			expectJob(t, fmt.Sprint(name, ", ", x), j, nil)
		}
	}
	expectItems(t, "all", odd(), nil)
	expectJob(t, "all", api.Job{Items: odd()}, nil)
}

// P16.1: the encoding of jobs of every form, with numbers that no valid job has.
func TestJob(t *testing.T) {
	for name, j := range jobs() {
		expectJob(t, name, j, wantJob(j))
	}
}

// P16.1: each number of notes and floats is encoded at its own place.
func TestJobNumbers(t *testing.T) {
	for _, n := range numbers() {
		h, k := api.Sp(n), int(n)
		for name, j := range map[string]api.Job{
			"line":   {Notes: []api.Note{{Lines: []api.Sp{1, h, 2}, Pens: []int{3, 4}}}},
			"pen":    {Notes: []api.Note{{Lines: []api.Sp{1, 2, 3}, Pens: []int{4, k}}}},
			"class":  {Floats: []api.Float{{C: k, H: 1, Where: 2}, {C: 2, H: 1, Where: 3}}},
			"height": {Floats: []api.Float{{C: 1, H: h, Where: 2}}},
			"where":  {Floats: []api.Float{{C: 2, H: 1, Where: k}}},
		} {
			expectJob(t, fmt.Sprint(name, " ", n), j, wantJob(j))
		}
	}
}

// P16.1: lists of many notes, lines, penalties and floats, also more than a job
// may have.
func TestManyElements(t *testing.T) {
	for _, n := range []int{1, 2, 63, 64, 65, 256, 257, 512, 513, 8191, 8192} {
		var j api.Job
		var long api.Note
		for i := range n {
			long.Lines = append(long.Lines, api.Sp(i))
			long.Pens = append(long.Pens, -i)
			j.Notes = append(j.Notes, api.Note{Lines: []api.Sp{api.Sp(i)}})
			j.Floats = append(j.Floats, api.Float{C: i % 3, H: api.Sp(i), Where: i % 4})
		}
		j.Notes = append(j.Notes, long)
		expectJob(t, fmt.Sprint(n), j, wantJob(j))
	}
}

// P16.1: the bytes of jobs, written out.
func TestJobBytes(t *testing.T) {
	head := append([]byte("TYM1"), make([]byte, 19)...)
	for name, c := range map[string]struct {
		j    api.Job
		want []byte
	}{
		"zero":   {api.Job{}, []byte{0, 0, 0}},
		"item":   {api.Job{Items: []api.Item{item.Box(3, 0)}}, []byte{2, 2, 6, 0, 0, 0}},
		"note":   {api.Job{Notes: []api.Note{{Lines: []api.Sp{1, 2}, Pens: []int{3}}}}, []byte{0, 2, 4, 2, 4, 2, 6, 0}},
		"notes":  {api.Job{Notes: []api.Note{{}, {Pens: []int{-1}}}}, []byte{0, 4, 0, 0, 0, 2, 1, 0}},
		"floats": {api.Job{Floats: []api.Float{{C: 1, H: 2, Where: 3}, {}}}, []byte{0, 0, 4, 2, 4, 6, 0, 0, 0}},
	} {
		expectJob(t, name, c.j, append(slices.Clone(head), c.want...))
	}
}

// P16.1, P3: nil and empty lists have the same encoding.
func TestNilAndEmpty(t *testing.T) {
	empty := api.Job{
		G: distinct(), Items: []api.Item{}, Floats: []api.Float{},
		Notes: []api.Note{{Lines: []api.Sp{}, Pens: []int{}}, {Lines: []api.Sp{1}, Pens: []int{}}, {Lines: []api.Sp{}, Pens: []int{2}}},
	}
	none := api.Job{G: distinct(), Notes: []api.Note{{}, {Lines: []api.Sp{1}}, {Pens: []int{2}}}}
	expectJob(t, "empty", empty, wantJob(none))
	expectJob(t, "nil", none, wantJob(none))
	empty.Notes, none.Notes = []api.Note{}, nil
	expectJob(t, "without notes, empty", empty, wantJob(none))
	expectJob(t, "without notes, nil", none, wantJob(none))
}

// variants returns jobs that differ from j in one number, in the length of one
// list, or in the order of two elements, and whose items are bare.
func variants(j api.Job) []api.Job {
	var l []api.Job
	add := func(turn func(j *api.Job)) {
		c := clone(j)
		turn(&c)
		if !slices.ContainsFunc(c.Items, func(x api.Item) bool { return !Bare(x) }) {
			l = append(l, c)
		}
	}
	add(func(j *api.Job) { j.G.Balance = !j.G.Balance })
	for _, name := range geomNames() {
		for _, d := range []int64{-1, 1, -200, 64, 128, 1 << 40, math.MinInt64} {
			add(func(j *api.Job) { j.G = with(j.G, name, value(j.G, name)+d) })
		}
	}
	for i, x := range j.Items {
		for _, name := range append(names(), "K") {
			for _, d := range []int64{-1, 1, 128, math.MinInt64} {
				add(func(j *api.Job) { j.Items[i] = with(x, name, value(x, name)+d) })
			}
		}
	}
	for i, f := range j.Floats {
		for _, d := range []int{-1, 1, 128, math.MinInt} {
			add(func(j *api.Job) { j.Floats[i].C += d })
			add(func(j *api.Job) { j.Floats[i].H = f.H + api.Sp(d) })
			add(func(j *api.Job) { j.Floats[i].Where += d })
		}
	}
	lengthen(add, func(j *api.Job) *[]api.Item { return &j.Items }, j, item.Box(0, 0), item.Barrier())
	lengthen(add, func(j *api.Job) *[]api.Note { return &j.Notes }, j, api.Note{}, api.Note{Lines: []api.Sp{0}})
	lengthen(add, func(j *api.Job) *[]api.Float { return &j.Floats }, j, api.Float{}, api.Float{H: 1})
	for i, n := range j.Notes {
		lengthen(add, func(j *api.Job) *[]api.Sp { return &j.Notes[i].Lines }, j, 0, 1)
		lengthen(add, func(j *api.Job) *[]int { return &j.Notes[i].Pens }, j, 0, 1)
		for k := range n.Lines {
			add(func(j *api.Job) { j.Notes[i].Lines[k]++ })
			add(func(j *api.Job) { j.Notes[i].Lines[k] -= 128 })
		}
		for k := range n.Pens {
			add(func(j *api.Job) { j.Notes[i].Pens[k]++ })
			add(func(j *api.Job) { j.Notes[i].Pens[k] -= 128 })
		}
	}
	return l
}

// lengthen adds jobs in which one list has one element more or less, or two
// elements in each other's places.
func lengthen[T any](add func(turn func(j *api.Job)), list func(j *api.Job) *[]T, j api.Job, more ...T) {
	count := len(*list(&j))
	for at := range count + 1 {
		for _, x := range more {
			add(func(j *api.Job) { *list(j) = slices.Insert(*list(j), at, x) })
		}
	}
	for at := range count {
		add(func(j *api.Job) { *list(j) = slices.Delete(*list(j), at, at+1) })
		for other := range at {
			add(func(j *api.Job) { l := *list(j); l[at], l[other] = l[other], l[at] })
		}
	}
}

// apart checks that two of the jobs have the same encoding only if they are
// equal, and returns the number of different ones.
func apart(t *testing.T, l []api.Job) int {
	t.Helper()
	seen := map[string]api.Job{}
	for _, j := range l {
		b, ok := Job(j)
		if !ok {
			t.Fatalf("%+v has no encoding", j)
		}
		if other, ok := seen[string(b)]; ok && !equal(other, j) {
			t.Errorf("%+v and %+v are both encoded as %v", other, j, b)
		}
		seen[string(b)] = j
	}
	return len(seen)
}

// P16.2: jobs that differ in any one number, in the length of any one list, or
// in the order of two elements have different encodings, and so have all jobs
// that differ from the same one so.
func TestDifferentJobs(t *testing.T) {
	for name, j := range jobs() {
		if name == "wild" {
			continue // it has too many variants; extreme has numbers as great
		}
		plain, _ := Job(j)
		l := variants(j)
		for _, v := range l {
			b, ok := Job(v)
			if !ok || bytes.Equal(b, plain) != equal(v, j) {
				t.Errorf("%s: %+v is encoded as %v", name, v, b)
			}
		}
		if n := apart(t, append(l, j)); n < 100 {
			t.Errorf("%s: only %d different jobs", name, n)
		}
	}
}

// P16.2: the same for two changes at once, which could make up for each other.
func TestTwiceDifferentJobs(t *testing.T) {
	j := api.Job{
		Items:  []api.Item{item.Box(1, 0), item.Pen(2)},
		Notes:  []api.Note{{Lines: []api.Sp{1, 0}, Pens: []int{1}}},
		Floats: []api.Float{{H: 1}},
	}
	l := []api.Job{j}
	for _, v := range variants(j) {
		l = append(l, variants(v)...)
	}
	if n := apart(t, l); n < 10000 {
		t.Errorf("only %d different jobs", n)
	}
}

// small are all lists of up to most elements of those given.
func small[T any](most int, of ...T) [][]T {
	all := [][]T{nil}
	last := all
	for range most {
		var next [][]T
		for _, l := range last {
			for _, x := range of {
				next = append(next, append(slices.Clone(l), x))
			}
		}
		all = append(all, next...)
		last = next
	}
	return all
}

// P16.2: all small jobs of small parts have different encodings: none runs from
// one of its lists into another.
func TestSmallJobs(t *testing.T) {
	var notes []api.Note
	for _, lines := range small[api.Sp](2, 0, 1) {
		for _, pens := range small(1, 0, 1) {
			notes = append(notes, api.Note{Lines: lines, Pens: pens})
		}
	}
	items := small(2, item.Box(0, 0), item.Box(1, 0), item.Box(0, 1), item.Glue(0, 0, 0, 0), item.Pen(0), item.Mark(1), item.Barrier())
	floats := small(1, api.Float{}, api.Float{C: 1}, api.Float{H: 1}, api.Float{Where: 1})
	var l []api.Job
	for _, i := range items {
		for _, n := range small(2, notes...) {
			for _, f := range floats {
				l = append(l, api.Job{Items: i, Notes: n, Floats: f})
			}
		}
	}
	if n := apart(t, l); n != len(l) {
		t.Errorf("%d encodings of %d jobs", n, len(l))
	}
}

// back reads an encoding by the chapter's text; it exists only if no two jobs
// have the same one.
type back struct{ b []byte }

func (r *back) int() int64 {
	n, size := binary.Varint(r.b)
	r.b = r.b[max(size, 0):]
	return n
}

func (r *back) geom() api.Geom {
	var g api.Geom
	for _, name := range geomNames() {
		g = with(g, name, r.int())
	}
	g.Balance = r.b[0] == 1
	r.b = r.b[1:]
	return g
}

func (r *back) item() api.Item {
	x := api.Item{K: int(r.int())}
	for _, name := range owns(x.K) {
		x = with(x, name, r.int())
	}
	return x
}

func (r *back) job() api.Job {
	r.b = bytes.TrimPrefix(r.b, []byte("TYM1"))
	j := api.Job{G: r.geom()}
	for range r.int() {
		j.Items = append(j.Items, r.item())
	}
	for range r.int() {
		var n api.Note
		for range r.int() {
			n.Lines = append(n.Lines, api.Sp(r.int()))
		}
		for range r.int() {
			n.Pens = append(n.Pens, int(r.int()))
		}
		j.Notes = append(j.Notes, n)
	}
	for range r.int() {
		j.Floats = append(j.Floats, api.Float{C: int(r.int()), H: api.Sp(r.int()), Where: int(r.int())})
	}
	return j
}

// P16.2: from each encoding the job can be read back, to the last byte.
func TestBack(t *testing.T) {
	for name, j := range jobs() {
		l := []api.Job{j}
		if name != "wild" {
			l = append(l, variants(j)...)
		}
		for _, v := range l {
			b, _ := Job(v)
			r := back{b}
			if got := r.job(); !equal(got, v) || len(r.b) != 0 {
				t.Fatalf("%s: %+v is read back as %+v, with %d bytes left", name, v, got, len(r.b))
			}
		}
	}
}

// P16.2: equal jobs have the same encoding, also if they share no memory, and
// if they were asked before.
func TestEqualJobs(t *testing.T) {
	for name, j := range jobs() {
		one, ok := Job(j)
		for range 3 {
			if two, same := Job(clone(j)); same != ok || !bytes.Equal(one, two) {
				t.Errorf("%s: %v and %v", name, one, two)
			}
		}
		if !bytes.Equal(Geom(j.G), Geom(clone(j).G)) {
			t.Errorf("%s: two encodings of %+v", name, j.G)
		}
	}
}

// encoded are the encodings of j by each of the functions.
func encoded(j api.Job) [][]byte {
	job, _ := Job(j)
	items, _ := Items(j.Items)
	return [][]byte{job, items, Geom(j.G)}
}

// P16.1, P5: what a call returned stays as it is when later calls are made, and
// later calls return the same when it is written to or appended to.
func TestOwnMemory(t *testing.T) {
	all := jobs()
	for _, name := range slices.Sorted(maps.Keys(all)) {
		j := all[name]
		want := [][]byte{wantJob(j), wantItems(j.Items), wantGeom(j.G)}
		first := encoded(j)
		second := encoded(j)
		for _, other := range all {
			encoded(other)
		}
		for i, b := range first {
			if !bytes.Equal(b, want[i]) {
				t.Errorf("%s: later calls changed %d", name, i)
			}
			for k := range b {
				b[k] ^= 0xff
			}
			b = b[:cap(b)]
			for k := range b {
				b[k] = 0xaa
			}
		}
		for i, b := range second {
			if !bytes.Equal(b, want[i]) {
				t.Errorf("%s: writing to %d changed another answer", name, i)
			}
		}
		for i, b := range encoded(j) {
			if !bytes.Equal(b, want[i]) {
				t.Errorf("%s: writing to %d changed a later answer", name, i)
			}
		}
	}
}

// P4: the job, its items and its lists read afterwards as before, also behind
// the ends of the lists, and also where there is no encoding.
func TestArguments(t *testing.T) {
	for name, base := range jobs() {
		for _, x := range append(odd(), item.Box(5, 0)) {
			j := clone(base)
			j.Items = append(j.Items, x, item.Box(77, 3))
			j.Items = j.Items[:len(j.Items)-1]
			j.Notes = append(j.Notes, api.Note{Lines: []api.Sp{1, 2, 3}[:2], Pens: []int{4, 5}[:1]}, api.Note{Lines: []api.Sp{9}})
			j.Notes = j.Notes[:len(j.Notes)-1]
			j.Floats = append(j.Floats, api.Float{H: 8})[:len(j.Floats)]
			before := clone(j)
			behind := func() string {
				n := j.Notes[len(j.Notes)-1]
				return fmt.Sprint(j.Items[:len(j.Items)+1], j.Notes[:len(j.Notes)+1], j.Floats[:len(j.Floats)+1], n.Lines[:3], n.Pens[:2])
			}
			text := behind()
			encoded(j)
			Bare(x)
			if !equal(j, before) || behind() != text {
				t.Errorf("%s: %+v became %+v", name, before, j)
			}
		}
	}
}

// P1: no goroutine's call disturbs another's, and nothing is kept from call to
// call.
func TestAtOnce(t *testing.T) {
	j := wild()
	want := wantJob(j)
	done := make(chan bool)
	for range 8 {
		go func() {
			b, ok := Job(j)
			done <- ok && bytes.Equal(b, want)
		}()
	}
	for range 8 {
		if !<-done {
			t.Error("Job differs")
		}
	}
}
