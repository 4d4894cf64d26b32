package decode

import (
	"bytes"
	"encoding/binary"
	"fmt"
	"maps"
	"math"
	"math/rand"
	"reflect"
	"slices"
	"testing"

	"tympan/api"
	"tympan/encode"
	"tympan/geom"
	"tympan/grid"
	"tympan/item"
)

// The names of the parts, as the chapter has them.
const (
	inMagic    = "magic"
	inGeometry = "geometry"
	inItems    = "items"
	inNotes    = "notes"
	inFloats   = "floats"
	atEnd      = "end"
)

// halt is what a scan panics with where it cannot go on.
type halt struct{}

// spot is a number or a byte of an encoding: the part in which it is, what it
// is, and where it begins and ends.
type spot struct {
	part, what string
	at, end    int
}

// scan reads bytes as the encoding of a job by the text of the chapters 5, 6, 16
// and 17. It uses the varints of Go's library instead of the project's packages.
type scan struct {
	b     []byte
	at    int
	part  string
	spots []spot
	job   api.Job
}

// scanned returns the scan of b as far as it comes.
func scanned(b []byte) (s *scan) {
	s = &scan{b: b, part: inMagic}
	defer func() {
		if e := recover(); e != nil && e != any(halt{}) {
			panic(e)
		}
	}()
	s.magic()
	s.geometry()
	s.items()
	s.notes()
	s.floats()
	s.part = atEnd
	return s
}

// whole reports whether everything has been read, to the last byte.
func (s *scan) whole() bool { return s.part == atEnd && s.at == len(s.b) }

// found notes a spot and goes on behind it.
func (s *scan) found(what string, size int) {
	s.spots = append(s.spots, spot{s.part, what, s.at, s.at + size})
	s.at += size
}

func (s *scan) number(what string) int64 {
	n, size := binary.Varint(s.b[s.at:])
	if size <= 0 || size != len(binary.AppendVarint(nil, n)) {
		panic(halt{})
	}
	s.found(what, size)
	return n
}

func (s *scan) count() int64 {
	n, size := binary.Varint(s.b[s.at:])
	if size > 0 && (n < 0 || n > int64(len(s.b)-s.at-size)) {
		panic(halt{})
	}
	return s.number("count")
}

func (s *scan) magic() {
	if !bytes.HasPrefix(s.b, []byte("TYM1")) {
		panic(halt{})
	}
	s.found("mark", 4)
}

func (s *scan) geometry() {
	s.part = inGeometry
	g := reflect.ValueOf(&s.job.G).Elem()
	for _, name := range geomNames() {
		g.FieldByName(name).SetInt(s.number(name))
	}
	if s.at == len(s.b) || s.b[s.at] > 1 {
		panic(halt{})
	}
	s.job.G.Balance = s.b[s.at] == 1
	s.found("Balance", 1)
}

func (s *scan) items() {
	s.part = inItems
	for range s.count() {
		k := s.number("kind")
		if k < 1 || k > 7 {
			panic(halt{})
		}
		x := api.Item{K: int(k)}
		for _, name := range owns(k) {
			reflect.ValueOf(&x).Elem().FieldByName(name).SetInt(s.number(name))
		}
		s.job.Items = append(s.job.Items, x)
	}
}

func (s *scan) notes() {
	s.part = inNotes
	for range s.count() {
		var n api.Note
		for range s.count() {
			n.Lines = append(n.Lines, api.Sp(s.number("line")))
		}
		for range s.count() {
			n.Pens = append(n.Pens, int(s.number("pen")))
		}
		s.job.Notes = append(s.job.Notes, n)
	}
}

func (s *scan) floats() {
	s.part = inFloats
	for range s.count() {
		c, h, w := s.number("C"), s.number("H"), s.number("Where")
		s.job.Floats = append(s.job.Floats, api.Float{C: int(c), H: api.Sp(h), Where: int(w)})
	}
}

// geomNames are the fields of a geometry in the order of chapter 16, but for
// Balance, which follows them.
func geomNames() []string {
	return []string{"Cols", "Wide", "Gap", "High", "First", "Grid", "Rule", "Sep", "NoteMost",
		"TopMost", "BotMost", "TopMany", "BotMany", "Club", "Widow", "Split", "Defer", "Spare"}
}

// owns returns the fields of a kind of items in the order of chapter 16.
func owns(k int64) []string {
	switch k {
	case 1:
		return []string{"H", "F"}
	case 2:
		return []string{"H", "Str", "Ord", "Shr"}
	case 3, 4, 5, 6:
		return []string{"N"}
	}
	return nil
}

// numbers are those about which the length of a chain changes, some between
// them, and both ends of the range.
func numbers() []int64 {
	l := []int64{0, 1, -1, 2, -10000, 10000, 1 << 30, math.MinInt64, math.MinInt64 + 1, math.MaxInt64 - 1, math.MaxInt64}
	for k := 6; k < 63; k += 7 {
		l = append(l, 1<<k-1, 1<<k, -1<<k, -1<<k-1)
	}
	return l
}

// geometry has numbers that the function makes of their places.
func geometry(of func(i int) int64, balance bool) api.Geom {
	g := api.Geom{Balance: balance}
	for i, name := range geomNames() {
		reflect.ValueOf(&g).Elem().FieldByName(name).SetInt(of(i))
	}
	return g
}

// small is a geometry of different numbers with chains of one byte each, and
// large is one with chains of two.
func small() api.Geom { return geometry(func(i int) int64 { return int64(i + 1) }, false) }
func large() api.Geom { return geometry(func(i int) int64 { return int64(i + 100) }, true) }

// kinds are an item of each kind, with different numbers.
func kinds() []api.Item {
	return []api.Item{
		item.Box(10, 2), item.Glue(9, 7, 2, 5), item.Pen(50), item.Mark(8), item.Note(6), item.Float(4), item.Barrier(),
	}
}

// full is a job that has everything.
func full() api.Job {
	return api.Job{
		G:     large(),
		Items: kinds(),
		Notes: []api.Note{
			{Lines: []api.Sp{4, 500, 6}, Pens: []int{30, 40}},
			{Lines: []api.Sp{7}},
			{Pens: []int{1, 2}},
			{},
		},
		Floats: []api.Float{{C: 0, H: 11, Where: 1}, {C: 1, H: 1200, Where: 2}, {C: 2, H: 13, Where: 3}},
	}
}

// ends is a job of the least and the greatest numbers.
func ends() api.Job {
	const least, most = math.MinInt, math.MaxInt
	return api.Job{
		G:      geometry(func(i int) int64 { return []int64{least, most}[i%2] }, true),
		Items:  []api.Item{item.Box(least, most), item.Glue(most, least, most, least), item.Pen(least), item.Mark(most), item.Note(least), item.Float(most)},
		Notes:  []api.Note{{Lines: []api.Sp{least, most}, Pens: []int{most, least}}},
		Floats: []api.Float{{C: most, H: least, Where: most}, {C: least, H: most, Where: least}},
	}
}

// many has lists whose numbers of elements have chains of two bytes, and numbers
// that no valid job has.
func many() api.Job {
	j := api.Job{
		G:     geometry(func(i int) int64 { return numbers()[i] }, false),
		Notes: []api.Note{{Lines: make([]api.Sp, 70), Pens: make([]int, 80)}},
	}
	for _, n := range numbers() {
		h, k := api.Sp(n), int(n)
		j.Items = append(j.Items, item.Box(h, k), item.Glue(h, h, k, h), item.Pen(k), item.Barrier())
		j.Notes = append(j.Notes, api.Note{Lines: []api.Sp{h}}, api.Note{Lines: []api.Sp{2, h}, Pens: []int{k}})
		j.Floats = append(j.Floats, api.Float{C: k, H: h, Where: k}, api.Float{H: h})
	}
	return j
}

// jobs are of every form; but for many, they are short.
func jobs() map[string]api.Job {
	f := full()
	return map[string]api.Job{
		"zero":       {},
		"geometry":   {G: f.G},
		"balance":    {G: api.Geom{Balance: true}},
		"items":      {G: f.G, Items: f.Items},
		"notes":      {G: f.G, Notes: f.Notes},
		"floats":     {G: f.G, Floats: f.Floats},
		"no items":   {G: small(), Notes: f.Notes, Floats: f.Floats},
		"no notes":   {G: small(), Items: f.Items, Floats: f.Floats},
		"no floats":  {G: small(), Items: f.Items, Notes: f.Notes},
		"full":       f,
		"ends":       ends(),
		"plain":      {G: geom.Plain(2, 100), Items: []api.Item{item.Box(3, 0)}},
		"barriers":   {Items: slices.Repeat([]api.Item{item.Barrier()}, 70)},
		"lines":      {Notes: []api.Note{{Lines: []api.Sp{1, 2}}, {Lines: make([]api.Sp, 65)}}},
		"pens":       {Notes: []api.Note{{Pens: []int{1, 2}}, {Pens: make([]int, 65)}}},
		"bare notes": {Notes: []api.Note{{}, {}, {}}},
		"many":       many(),
	}
}

// encoded returns the encoding of j.
func encoded(t *testing.T, j api.Job) []byte {
	t.Helper()
	b, ok := encode.Job(j)
	if !ok {
		t.Fatalf("%+v has no encoding", j)
	}
	return b
}

// each calls one for all jobs and their encodings; with many, if asked.
func each(t *testing.T, long bool, one func(name string, j api.Job, b []byte)) {
	t.Helper()
	all := jobs()
	for _, name := range slices.Sorted(maps.Keys(all)) {
		if long || name != "many" {
			one(name, all[name], encoded(t, all[name]))
		}
	}
}

// head is the encoding of a job in front of its items, with a geometry of zeros.
func head(more ...byte) []byte {
	return append(append([]byte("TYM1"), make([]byte, 19)...), more...)
}

// gives checks that b is decoded as j.
func gives(t *testing.T, what string, b []byte, j api.Job) {
	t.Helper()
	if got, err := Job(b); err != api.OK || !grid.Same(got, j) {
		t.Errorf("%s: Job is %+v, %d, not %+v", what, got, err, j)
	}
	stops(t, what, b, atEnd, len(b))
}

// fails checks that b is not decoded.
func fails(t *testing.T, what string, b []byte) {
	t.Helper()
	if got, err := Job(b); err != api.ErrForm || !grid.Same(got, api.Job{}) {
		t.Errorf("%s: Job is %+v, %d", what, got, err)
	}
}

// stops checks what Where returns.
func stops(t *testing.T, what string, b []byte, part string, at int) {
	t.Helper()
	if name, pos := Where(b); name != part || pos != at {
		t.Errorf("%s: Where is %s, %d, not %s, %d", what, name, pos, part, at)
	}
}

// breaks checks that b is not decoded, and where it cannot be read.
func breaks(t *testing.T, what string, b []byte, part string, at int) {
	t.Helper()
	fails(t, what, b)
	stops(t, what, b, part, at)
}

// holds checks all calls for b against the scan, and P17.3 as far as it
// concerns b. It reports whether b is the encoding of a job.
func holds(t *testing.T, what string, b []byte) bool {
	t.Helper()
	s := scanned(b)
	if begins := len(b) >= 4 && string(b[:4]) == "TYM1"; Begins(b) != begins {
		t.Errorf("%s: Begins is %v", what, !begins)
	}
	if !s.whole() {
		breaks(t, what, b, s.part, s.at)
		return false
	}
	gives(t, what, b, s.job)
	j, _ := Job(b)
	if again, ok := encode.Job(j); !ok || !bytes.Equal(again, b) {
		t.Errorf("%s: %v is decoded as %+v, whose encoding is %v, %v", what, b, j, again, ok)
	}
	return true
}

// put returns b with the bytes between from and to replaced.
func put(b []byte, from, to int, by ...byte) []byte {
	return slices.Concat(b[:from], by, b[to:])
}

// chain returns the chain of n.
func chain(n int64) []byte { return binary.AppendVarint(nil, n) }

// P17.1, P17.2: the chapter's example.
func TestExample(t *testing.T) {
	for _, b := range [][]byte{nil, {}, []byte("TYM1")[:0]} {
		breaks(t, fmt.Sprintf("%#v", b), b, inMagic, 0)
	}
}

// P17.1: Job of bytes that are written out.
func TestJobBytes(t *testing.T) {
	note := func(lines []api.Sp, pens ...int) api.Note { return api.Note{Lines: lines, Pens: pens} }
	for what, c := range map[string]struct {
		b []byte
		j api.Job
	}{
		"zero":  {head(0, 0, 0), api.Job{}},
		"item":  {head(2, 2, 6, 0, 0, 0), api.Job{Items: []api.Item{item.Box(3, 0)}}},
		"items": {head(4, 2, 6, 0, 14, 0, 0), api.Job{Items: []api.Item{item.Box(3, 0), item.Barrier()}}},
		"kinds": {
			head(14, 2, 20, 4, 4, 18, 14, 4, 10, 6, 100, 8, 16, 10, 12, 12, 8, 14, 0, 0),
			api.Job{Items: kinds()},
		},
		"long":   {head(4, 6, 159, 156, 1, 2, 128, 1, 129, 1, 0, 0), api.Job{Items: []api.Item{item.Pen(-10000), item.Box(64, -65)}}},
		"note":   {head(0, 2, 4, 2, 4, 2, 6, 0), api.Job{Notes: []api.Note{note([]api.Sp{1, 2}, 3)}}},
		"notes":  {head(0, 4, 0, 0, 0, 2, 1, 0), api.Job{Notes: []api.Note{{}, note(nil, -1)}}},
		"floats": {head(0, 0, 4, 2, 4, 6, 0, 0, 0), api.Job{Floats: []api.Float{{C: 1, H: 2, Where: 3}, {}}}},
		"greatest": {
			head(2, 8, 254, 255, 255, 255, 255, 255, 255, 255, 255, 1, 0, 0),
			api.Job{Items: []api.Item{item.Mark(math.MaxInt)}},
		},
		"least": {
			head(2, 8, 255, 255, 255, 255, 255, 255, 255, 255, 255, 1, 0, 0),
			api.Job{Items: []api.Item{item.Mark(math.MinInt)}},
		},
		"geometry": {
			append([]byte("TYM1"), 2, 4, 6, 8, 10, 12, 14, 16, 18, 20, 22, 24, 26, 28, 30, 32, 34, 36, 1, 0, 0, 0),
			api.Job{G: api.Geom{Cols: 1, Wide: 2, Gap: 3, High: 4, First: 5, Grid: 6, Rule: 7, Sep: 8, NoteMost: 9,
				TopMost: 10, BotMost: 11, TopMany: 12, BotMany: 13, Club: 14, Widow: 15, Split: 16, Defer: 17, Spare: 18, Balance: true}},
		},
	} {
		gives(t, what, c.b, c.j)
	}
}

// P17.1, P17.3: a job of every form is decoded from its encoding.
func TestJobs(t *testing.T) {
	each(t, true, func(name string, j api.Job, b []byte) {
		gives(t, name, b, j)
		holds(t, name, b)
	})
}

// P17.1, P17.3: each of the nineteen fields of a geometry, with numbers of every
// size.
func TestGeometryNumbers(t *testing.T) {
	if n := reflect.TypeFor[api.Geom]().NumField(); n != len(geomNames())+1 {
		t.Fatalf("a geometry has %d fields", n)
	}
	for _, balance := range []bool{false, true} {
		for i, name := range geomNames() {
			for _, n := range numbers() {
				g := geometry(func(k int) int64 {
					if k == i {
						return n
					}
					return int64(k)
				}, balance)
				j := api.Job{G: g, Items: kinds()}
				gives(t, fmt.Sprint(name, " ", n), encoded(t, j), j)
			}
		}
	}
}

// P17.1, P17.3: each field of an item of each kind, of a note and of a float,
// with numbers of every size.
func TestElementNumbers(t *testing.T) {
	for _, n := range numbers() {
		h, k := api.Sp(n), int(n)
		j := api.Job{
			Items: []api.Item{
				item.Box(h, 1), item.Box(2, k), item.Glue(h, 1, 2, 3), item.Glue(1, h, 2, 3), item.Glue(1, 2, k, 3), item.Glue(1, 2, 3, h),
				item.Pen(k), item.Mark(k), item.Note(k), item.Float(k),
			},
			Notes:  []api.Note{{Lines: []api.Sp{h, 1}, Pens: []int{2, k}}, {Lines: []api.Sp{1, h, h}}, {Pens: []int{k}}},
			Floats: []api.Float{{C: k, H: 1, Where: 2}, {C: 1, H: h, Where: 2}, {C: 1, H: 2, Where: k}},
		}
		gives(t, fmt.Sprint("all ", n), encoded(t, j), j)
		for _, x := range j.Items {
			one := api.Job{Items: []api.Item{x}}
			gives(t, fmt.Sprint(x), encoded(t, one), one)
		}
	}
}

// P17.1, P17.3: lists of many elements, also more than a job may have.
func TestManyElements(t *testing.T) {
	for _, n := range []int{1, 2, 63, 64, 65, 256, 257, 512, 513, 4096, 4097, 8191, 8192} {
		j := api.Job{Notes: []api.Note{{}}}
		for i := range n {
			j.Items = append(j.Items, kinds()[i%7])
			j.Notes = append(j.Notes, api.Note{Lines: []api.Sp{api.Sp(i)}, Pens: []int{-i}})
			j.Notes[0].Lines = append(j.Notes[0].Lines, api.Sp(-i))
			j.Notes[0].Pens = append(j.Notes[0].Pens, i)
			j.Floats = append(j.Floats, api.Float{C: i % 3, H: api.Sp(i), Where: i % 4})
		}
		gives(t, fmt.Sprint(n), encoded(t, j), j)
	}
}

// P17.1: Begins looks at the first four bytes and at nothing else.
func TestBegins(t *testing.T) {
	magic := []byte("TYM1")
	for n := range 4 {
		if Begins(magic[:n]) {
			t.Errorf("Begins is true for %d bytes", n)
		}
	}
	for _, s := range []string{"\x00", "tym1", "TYM", "TYM\x00", " TYM1", "YM1", "1MYT", "TYMTYM1"} {
		if Begins([]byte(s)) {
			t.Errorf("Begins is true for %q", s)
		}
	}
	if Begins(nil) {
		t.Error("Begins is true for nil")
	}
	for _, s := range []string{"TYM1", "TYM1\x00", "TYM1TYM1", "TYM1\xff\xff", "TYM12", "TYM1 and no job"} {
		if !Begins([]byte(s)) {
			t.Errorf("Begins is false for %q", s)
		}
	}
	each(t, true, func(name string, j api.Job, b []byte) {
		if !Begins(b) || !Begins(append(b, 7)) || Begins(b[1:]) || Begins(append([]byte{0}, b...)) {
			t.Errorf("%s: Begins differs", name)
		}
	})
}

// P17.1, P17.2: a wrong byte among the first four, whatever it is.
func TestWrongMagic(t *testing.T) {
	each(t, false, func(name string, j api.Job, b []byte) {
		for at := range 4 {
			for c := range 256 {
				if byte(c) == b[at] {
					continue
				}
				wrong := put(b, at, at+1, byte(c))
				what := fmt.Sprint(name, ", ", c, " at ", at)
				breaks(t, what, wrong, inMagic, 0)
				if Begins(wrong) || Begins(wrong[:4]) {
					t.Errorf("%s: Begins is true", what)
				}
			}
		}
		for at := range 4 {
			breaks(t, fmt.Sprint(name, " to ", at), b[:at], inMagic, 0)
			breaks(t, fmt.Sprint(name, " without ", at), put(b, at, at+1), inMagic, 0)
		}
	})
}

// P17.1, P17.2: no encoding that is cut off is one.
func TestCutOff(t *testing.T) {
	each(t, true, func(name string, j api.Job, b []byte) {
		for n := range b {
			what := fmt.Sprint(name, " to ", n)
			fails(t, what, b[:n])
			if holds(t, what, b[:n]) {
				t.Errorf("%s is an encoding", what)
			}
		}
	})
}

// P17.1, P17.2: no encoding with more behind it is one; Where does not look
// there.
func TestMoreBehind(t *testing.T) {
	each(t, true, func(name string, j api.Job, b []byte) {
		for c := range 256 {
			breaks(t, fmt.Sprint(name, " and ", c), append(slices.Clone(b), byte(c)), atEnd, len(b))
		}
		for what, more := range map[string][]byte{
			"itself": b, "zeros": make([]byte, 300), "no chains": bytes.Repeat([]byte{255}, 300), "floats": {2, 0, 0, 0},
		} {
			breaks(t, name+" and "+what, slices.Concat(b, more), atEnd, len(b))
		}
		// What lies behind the end of the slice does not count.
		gives(t, name, slices.Concat(b, []byte{0, 0})[:len(b)], j)
	})
}

// P17.2: the positions at which the reader stops in the nineteen numbers of a
// geometry, where each takes one byte, and where each takes two.
func TestGeometryPositions(t *testing.T) {
	one := append([]byte("TYM1"), 2, 4, 6, 8, 10, 12, 14, 16, 18, 20, 22, 24, 26, 28, 30, 32, 34, 36, 1)
	for i := range 19 {
		breaks(t, fmt.Sprint("one, cut ", i), one[:4+i], inGeometry, 4+i)
		breaks(t, fmt.Sprint("one, no end ", i), append(slices.Clone(one[:4+i]), 128), inGeometry, 4+i)
	}
	breaks(t, "one, all", one, inItems, 23)
	two := []byte("TYM1")
	for range 18 {
		two = append(two, 200, 1)
	}
	for i := range 18 {
		breaks(t, fmt.Sprint("two, cut ", i), two[:4+2*i], inGeometry, 4+2*i)
		breaks(t, fmt.Sprint("two, within ", i), two[:5+2*i], inGeometry, 4+2*i)
		breaks(t, fmt.Sprint("two, longer ", i), put(two, 5+2*i, 6+2*i, 0), inGeometry, 4+2*i)
	}
	breaks(t, "two, all", two, inGeometry, 40)
	breaks(t, "two, and Balance", append(two, 0), inItems, 41)
}

// P17.1, P17.2: a Balance that is neither 0 nor 1.
func TestBalance(t *testing.T) {
	each(t, false, func(name string, j api.Job, b []byte) {
		at := 3 + len(encode.Geom(j.G))
		for c := range 256 {
			what := fmt.Sprint(name, " with ", c)
			changed := put(b, at, at+1, byte(c))
			if c > 1 {
				breaks(t, what, changed, inGeometry, at)
				continue
			}
			j.G.Balance = c == 1
			gives(t, what, changed, j)
		}
	})
}

// P17.2: where the reader stops in lists, written out; head has 23 bytes.
func TestListPositions(t *testing.T) {
	for what, c := range map[string]struct {
		tail []byte
		part string
		at   int
	}{
		"no items":            {[]byte{}, inItems, 23},
		"no number of items":  {[]byte{128}, inItems, 23},
		"longer number":       {[]byte{130, 0, 14, 0, 0}, inItems, 23},
		"first item":          {[]byte{4, 16, 14, 0, 0}, inItems, 25},
		"first, cut":          {[]byte{4, 2, 130}, inItems, 25},
		"first, in H":         {[]byte{4, 2, 128, 128, 128, 128, 128, 128, 128, 128, 128, 2, 0, 0}, inItems, 25},
		"first, in F":         {[]byte{4, 2, 6, 130, 0, 0}, inItems, 26},
		"middle item":         {[]byte{6, 14, 0, 14, 0, 0}, inItems, 26},
		"middle, in Shr":      {[]byte{6, 14, 4, 2, 2, 2, 128, 0, 14, 0, 0}, inItems, 29},
		"last item":           {[]byte{4, 14, 1, 0, 0}, inItems, 26},
		"last, in N":          {[]byte{2, 10, 128}, inItems, 25},
		"long unknown kind":   {[]byte{2, 128, 1, 0, 0}, inItems, 26},
		"no notes":            {[]byte{0}, inNotes, 24},
		"no number of notes":  {[]byte{0, 255}, inNotes, 24},
		"after items":         {[]byte{2, 14}, inNotes, 25},
		"first note":          {[]byte{0, 2, 128}, inNotes, 25},
		"first, lines":        {[]byte{0, 4, 4, 2}, inNotes, 25},
		"first, line":         {[]byte{0, 4, 4, 2, 129, 0, 0}, inNotes, 27},
		"first, no pens":      {[]byte{0, 2, 4, 2, 2}, inNotes, 28},
		"first, pens":         {[]byte{0, 2, 4, 2, 2, 5, 0}, inNotes, 28},
		"first, pen":          {[]byte{0, 2, 4, 2, 2, 4, 6, 128, 0}, inNotes, 30},
		"middle note":         {[]byte{0, 6, 0, 0, 3, 0, 0, 0, 0}, inNotes, 27},
		"last note, line":     {[]byte{0, 4, 0, 0, 2, 200, 0}, inNotes, 28},
		"last note, no pens":  {[]byte{0, 4, 0, 0, 2, 2}, inNotes, 29},
		"no floats":           {[]byte{0, 0}, inFloats, 25},
		"no number of floats": {[]byte{0, 0, 127}, inFloats, 25},
		"after notes":         {[]byte{0, 2, 0, 2, 8}, inFloats, 28},
		"first float":         {[]byte{0, 0, 4, 128, 0}, inFloats, 26},
		"first, in the H":     {[]byte{0, 0, 4, 2, 128, 0}, inFloats, 27},
		"first, in Where":     {[]byte{0, 0, 4, 2, 2, 128, 0}, inFloats, 28},
		"middle float":        {[]byte{0, 0, 6, 0, 0, 0, 129, 0, 0, 0, 0, 0}, inFloats, 29},
		"last float":          {[]byte{0, 0, 4, 0, 0, 0}, inFloats, 29},
		"last, in the Where":  {[]byte{0, 0, 4, 0, 0, 0, 2, 2}, inFloats, 31},
	} {
		breaks(t, what, head(c.tail...), c.part, c.at)
	}
}

// P17.1, P17.2: as many elements as there are bytes can be, one more cannot.
func TestCountsAtTheirLimit(t *testing.T) {
	for what, c := range map[string]struct {
		tail []byte
		part string
		at   int
	}{
		"items":           {[]byte{8, 14, 14, 14, 14}, inNotes, 28},
		"items, above":    {[]byte{10, 14, 14, 14, 14}, inItems, 23},
		"item, above":     {[]byte{2}, inItems, 23},
		"notes":           {[]byte{0, 4, 0, 0}, inNotes, 27},
		"notes, above":    {[]byte{0, 6, 0, 0}, inNotes, 24},
		"note, above":     {[]byte{0, 2}, inNotes, 24},
		"lines":           {[]byte{0, 2, 4, 1, 1}, inNotes, 28},
		"lines, above":    {[]byte{0, 2, 6, 1, 1}, inNotes, 25},
		"pens":            {[]byte{0, 2, 0, 4, 1, 1}, inFloats, 29},
		"pens, above":     {[]byte{0, 2, 0, 6, 1, 1}, inNotes, 26},
		"floats":          {[]byte{0, 0, 6, 2, 2, 2}, inFloats, 29},
		"floats, above":   {[]byte{0, 0, 8, 2, 2, 2}, inFloats, 25},
		"float, above":    {[]byte{0, 0, 2}, inFloats, 25},
		"items, negative": {[]byte{1, 0, 0}, inItems, 23},
		"lines, negative": {[]byte{0, 2, 1, 0, 0}, inNotes, 25},
	} {
		breaks(t, what, head(c.tail...), c.part, c.at)
	}
	// An encoding that is as short as can be, so that the counts are at the limit.
	gives(t, "float", head(0, 0, 2, 0, 0, 0), api.Job{Floats: []api.Float{{}}})
}

// P17.1, P17.2: a number of elements that is negative or above the bytes that
// are left, in each list of each job. The reader stops before it.
func TestWrongCounts(t *testing.T) {
	counts := 0
	each(t, false, func(name string, j api.Job, b []byte) {
		for _, s := range scanned(b).spots {
			if s.what != "count" {
				continue
			}
			counts++
			left := int64(len(b) - s.end)
			for _, n := range []int64{
				-1, -2, -64, -left, math.MinInt64, math.MinInt32, left + 1, left + 2, 2*left + 64, 1 << 31, 1<<32 + 1, 1 << 56, math.MaxInt64 - 1, math.MaxInt64,
			} {
				if n == 0 {
					continue
				}
				breaks(t, fmt.Sprint(name, ", ", n, " at ", s.at), put(b, s.at, s.end, chain(n)...), s.part, s.at)
			}
			// Other numbers of elements that can be do not stop the reader there.
			for n := range min(left, 200) + 1 {
				changed := put(b, s.at, s.end, chain(n)...)
				holds(t, fmt.Sprint(name, ", ", n, " at ", s.at), changed)
				if part, at := Where(changed); part == s.part && at == s.at {
					t.Errorf("%s: stops at %d elements of %d bytes", name, n, left)
				}
			}
		}
	})
	if counts < 60 {
		t.Errorf("only %d counts", counts)
	}
}

// P17.1, P17.2: a kind that does not exist, as the first, a middle and the last
// item. The reader stops behind the chain of the kind.
func TestWrongKinds(t *testing.T) {
	for _, k := range []int64{0, -1, -2, -7, 8, 9, 63, 64, 255, 256, 257, 1<<32 + 1, -1<<32 + 3, math.MinInt64, math.MinInt64 + 1, math.MaxInt64} {
		found := 0
		each(t, false, func(name string, j api.Job, b []byte) {
			for _, s := range scanned(b).spots {
				if s.what == "kind" {
					found++
					breaks(t, fmt.Sprint(name, ", ", k, " at ", s.at), put(b, s.at, s.end, chain(k)...), inItems, s.at+len(chain(k)))
				}
			}
		})
		if found < 40 {
			t.Errorf("only %d kinds", found)
		}
	}
}

// P17.1, P17.2: in each number of each job, a chain that is longer than it need
// be or that does not end, and one that is too great. The reader stops before
// it.
func TestWrongChains(t *testing.T) {
	endless := bytes.Repeat([]byte{128}, 10)
	each(t, false, func(name string, j api.Job, b []byte) {
		for _, s := range scanned(b).spots {
			if s.what == "mark" || s.what == "Balance" {
				continue
			}
			last := b[s.end-1]
			what := fmt.Sprint(name, ", ", s.what, " at ", s.at)
			breaks(t, what+", longer", put(b, s.end-1, s.end, last|128, 0), s.part, s.at)
			breaks(t, what+", endless", put(b, s.at, s.end, endless...), s.part, s.at)
			breaks(t, what+", too great", put(b, s.at, s.end, append(slices.Clone(endless[:9]), 2)...), s.part, s.at)
			if s.end-s.at > 1 {
				breaks(t, what+", its last byte 0", put(b, s.end-1, s.end, 0), s.part, s.at)
			}
		}
		// At the end of the bytes the last number does not end: the number of
		// floats, or the last number of the last float.
		last := scanned(b).spots[len(scanned(b).spots)-1]
		if last.what == "Where" {
			breaks(t, name+", no end", put(b, len(b)-1, len(b), b[len(b)-1]|128), inFloats, last.at)
		}
	})
}

// P17.1, P17.2, P17.3: every single byte of every job changed: to every other
// one in a job that has everything, and to those at the limits in all others.
func TestChangedBytes(t *testing.T) {
	good, bad := 0, 0
	each(t, false, func(name string, j api.Job, b []byte) {
		for at := range b {
			for c := range 256 {
				if limit := c < 20 || c%64 < 2 || c%64 > 61; name != "full" && !limit {
					continue
				}
				if holds(t, fmt.Sprint(name, ", ", c, " at ", at), put(b, at, at+1, byte(c))) {
					good++
				} else {
					bad++
				}
			}
		}
	})
	if good < 10000 || bad < 10000 {
		t.Errorf("only %d encodings and %d others", good, bad)
	}
}

// P17.1, P17.2, P17.3: encodings with some bytes changed, added or left out.
func TestManyChanges(t *testing.T) {
	r := rand.New(rand.NewSource(17))
	good := 0
	each(t, false, func(name string, j api.Job, b []byte) {
		for range 3000 {
			c := slices.Clone(b)
			for range 1 + r.Intn(4) {
				at := r.Intn(len(c) + 1)
				to := min(at+r.Intn(2), len(c))
				c = put(c, at, to, slices.Repeat([]byte{byte(r.Intn(256) >> r.Intn(8))}, r.Intn(2))...)
			}
			if holds(t, fmt.Sprintf("%s, %v", name, c), c) {
				good++
			}
		}
	})
	if good < 1000 {
		t.Errorf("only %d encodings", good)
	}
}

// P17.1, P17.2, P17.3: bytes made at random: all of them, those behind TYM1, and
// those behind the geometry.
func TestRandomBytes(t *testing.T) {
	r := rand.New(rand.NewSource(1717))
	plain := []byte{0, 0, 0, 0, 0, 0, 0, 0, 2, 2, 2, 2, 4, 4, 6, 8, 10, 12, 14, 14, 1, 128}
	for _, front := range [][]byte{nil, []byte("TYM1"), head()} {
		good := map[string]int{}
		for range 20000 {
			b := slices.Clone(front)
			for range r.Intn(38 - len(front)) {
				c := byte(r.Intn(256))
				if r.Intn(20) > 0 {
					c = plain[r.Intn(len(plain))]
				}
				b = append(b, c)
			}
			holds(t, fmt.Sprint(b), b)
			// What lies behind the last part is left out, so that more are encodings.
			b = b[:scanned(b).at]
			if holds(t, fmt.Sprint(b), b) {
				good[string(b)]++
			}
		}
		if len(front) > 4 && len(good) < 150 {
			t.Errorf("only %d encodings", len(good))
		}
	}
}

// random makes a job of numbers of every size.
func random(r *rand.Rand) api.Job {
	n := func() int64 { return int64(r.Uint64()) >> r.Intn(64) }
	h := func() api.Sp { return api.Sp(n()) }
	k := func() int { return int(n()) }
	j := api.Job{G: geometry(func(int) int64 { return n() }, r.Intn(2) > 0)}
	for range r.Intn(9) {
		j.Items = append(j.Items, []api.Item{
			item.Box(h(), k()), item.Glue(h(), h(), k(), h()), item.Pen(k()), item.Mark(k()), item.Note(k()), item.Float(k()), item.Barrier(),
		}[r.Intn(7)])
	}
	for range r.Intn(5) {
		var x api.Note
		for range r.Intn(5) {
			x.Lines = append(x.Lines, h())
		}
		for range r.Intn(5) {
			x.Pens = append(x.Pens, k())
		}
		j.Notes = append(j.Notes, x)
	}
	for range r.Intn(5) {
		j.Floats = append(j.Floats, api.Float{C: k(), H: h(), Where: k()})
	}
	return j
}

// P17.1, P17.3: jobs made at random are decoded from their encodings.
func TestRandomJobs(t *testing.T) {
	r := rand.New(rand.NewSource(171717))
	for i := range 10000 {
		j := random(r)
		b := encoded(t, j)
		gives(t, fmt.Sprint(i), b, j)
		holds(t, fmt.Sprint(i), b)
	}
}

// scribble writes to all the memory of l, also behind its end.
func scribble[T any](l []T, x T) {
	l = l[:cap(l)]
	for i := range l {
		l[i] = x
	}
}

// P17.1, P5: what a call returned stays as it is when later calls are made, when
// the bytes are written to, and when another answer is.
func TestOwnMemory(t *testing.T) {
	each(t, true, func(name string, j api.Job, b []byte) {
		mine := slices.Clone(b)
		first, err := Job(mine)
		if err != api.OK {
			t.Fatalf("%s: Job is %d", name, err)
		}
		part, at := Where(mine)
		second, _ := Job(mine)
		each(t, false, func(_ string, _ api.Job, other []byte) {
			Job(other)
			Where(other[:len(other)/2])
		})
		scribble(mine, 0xaa)
		if !grid.Same(first, j) || !grid.Same(second, j) || part != atEnd || at != len(b) {
			t.Errorf("%s: the answer became %+v, %s, %d", name, first, part, at)
		}
		scribble(first.Items, api.Item{K: 99})
		scribble(first.Floats, api.Float{H: 99})
		for _, n := range first.Notes {
			scribble(n.Lines, 99)
			scribble(n.Pens, 99)
		}
		scribble(first.Notes, api.Note{})
		if !grid.Same(second, j) {
			t.Errorf("%s: writing to an answer changed another", name)
		}
		gives(t, name+" again", b, j)
	})
}

// P17.1: no two lists of one answer share memory.
func TestListsApart(t *testing.T) {
	each(t, false, func(name string, j api.Job, b []byte) {
		for i := range j.Notes {
			for _, pens := range []bool{false, true} {
				got, _ := Job(b)
				want, _ := Job(b)
				if pens {
					scribble(got.Notes[i].Pens, 99)
					want.Notes[i].Pens = slices.Repeat([]int{99}, len(want.Notes[i].Pens))
				} else {
					scribble(got.Notes[i].Lines, 99)
					want.Notes[i].Lines = slices.Repeat([]api.Sp{99}, len(want.Notes[i].Lines))
				}
				if !grid.Same(got, want) {
					t.Errorf("%s: writing to the note %d gives %+v", name, i, got)
				}
			}
		}
	})
}

// P4: the bytes read afterwards as before, also those behind the end.
func TestArguments(t *testing.T) {
	each(t, false, func(name string, j api.Job, b []byte) {
		for _, to := range []int{0, 2, 4, 10, len(b) / 2, len(b) - 1, len(b)} {
			long := slices.Concat(b, []byte{1, 2, 3})
			before := slices.Clone(long)
			Job(long[:to])
			Where(long[:to])
			Begins(long[:to])
			if !bytes.Equal(long, before) {
				t.Errorf("%s: %v became %v", name, before, long)
			}
		}
	})
}

// P5: the same bytes give the same answers, also to several goroutines at once.
func TestAtOnce(t *testing.T) {
	j := many()
	b := encoded(t, j)
	done := make(chan bool)
	for range 8 {
		go func() {
			got, err := Job(b)
			part, at := Where(b[:len(b)-1])
			done <- err == api.OK && grid.Same(got, j) && part == inFloats && at > 0 && Begins(b)
		}()
	}
	for range 8 {
		if !<-done {
			t.Error("an answer differs")
		}
	}
}
