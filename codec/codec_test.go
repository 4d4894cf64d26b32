package codec

import (
	"bytes"
	"fmt"
	"math"
	"slices"
	"testing"

	"tympan/api"
	"tympan/chain"
)

// numbers are those about 0, about which the number of bytes changes, and both
// ends of the range.
func numbers() []int64 {
	l := []int64{0, math.MinInt64, math.MinInt64 + 1, math.MaxInt64 - 1, math.MaxInt64}
	for k := range 63 {
		for _, d := range []int64{-1, 0, 1} {
			l = append(l, 1<<k+d, -(1<<k + d))
		}
	}
	return l
}

// texts are marks: none, plain ones, and bytes that are no text.
func texts() []string {
	return []string{"", "a", "ab", "tympan", "\x00", "\xff\xfe\x80", "ä\n\x00"}
}

// chains returns the chains of the numbers, one after another.
func chains(l ...int64) []byte {
	var b []byte
	for _, n := range l {
		b = chain.Put(b, n)
	}
	return b
}

// holds checks where a reader is, whether it has stopped, and what End says.
func holds(t *testing.T, what string, r *Reader, at int, right bool, end api.Errno) {
	t.Helper()
	if r.At() != at || r.Right() != right || r.End() != end {
		t.Errorf("%s: at %d, right %v, end %d; not %d, %v, %d", what, r.At(), r.Right(), r.End(), at, right, end)
	}
}

// goes checks a reader that has not stopped.
func goes(t *testing.T, what string, r *Reader, at int) {
	t.Helper()
	end := api.ErrForm
	if at == len(r.b) {
		end = api.OK
	}
	holds(t, what, r, at, true, end)
}

// rests checks that a reader has stopped at a position, and that no method reads
// anything or moves it from then on.
func rests(t *testing.T, what string, r *Reader, at int) {
	t.Helper()
	holds(t, what, r, at, false, api.ErrForm)
	calls := 0
	count := func() int { calls++; return calls }
	for range 2 {
		r.Mark("")
		holds(t, what+", Mark of nothing", r, at, false, api.ErrForm)
		r.Mark("a")
		holds(t, what+", Mark", r, at, false, api.ErrForm)
		if n := r.Int(); n != 0 {
			t.Errorf("%s: then Int is %d", what, n)
		}
		if r.Bool() {
			t.Errorf("%s: then Bool is true", what)
		}
		if n := r.Count(); n != 0 {
			t.Errorf("%s: then Count is %d", what, n)
		}
		if l := r.Ints(); len(l) != 0 {
			t.Errorf("%s: then Ints is %v", what, l)
		}
		if l := Each(r, count); len(l) != 0 || calls != 0 {
			t.Errorf("%s: then Each is %v after %d calls", what, l, calls)
		}
		r.Stop()
		holds(t, what+", and all the rest", r, at, false, api.ErrForm)
	}
}

// P6.1: the example of the chapter.
func TestExample(t *testing.T) {
	var w Writer
	w.Mark("ab")
	w.Int(3)
	w.Bool(true)
	if b := w.Bytes(); !bytes.Equal(b, []byte{'a', 'b', 6, 1}) {
		t.Errorf("Bytes: %v", b)
	}
}

// P6.1: a plain Writer is empty, and each method appends what it says and no more.
func TestWriterAppends(t *testing.T) {
	var w Writer
	var all []byte
	step := func(what string, add ...byte) {
		t.Helper()
		all = append(all, add...)
		if b := w.Bytes(); !bytes.Equal(b, all) {
			t.Fatalf("%s: %v, not %v", what, b, all)
		}
	}
	step("plain")
	step("asked again")
	for range 2 {
		for _, s := range texts() {
			w.Mark(s)
			step("Mark", []byte(s)...)
		}
		for _, n := range numbers() {
			w.Int(n)
			step("Int", chains(n)...)
		}
		w.Bool(true)
		step("Bool of true", 1)
		w.Bool(false)
		step("Bool of false", 0)
		w.Ints(nil)
		step("Ints of nil", 0)
		w.Ints([]int64{})
		step("Ints of none", 0)
		w.Ints([]int64{-1, 64})
		step("Ints of two", 4, 1, 128, 1)
		w.Ints([]int64{0})
		step("Ints of 0", 2, 0)
		w.Ints(make([]int64, 64))
		step("Ints of a long list", append([]byte{128, 1}, make([]byte, 64)...)...)
		w.Ints(numbers())
		step("Ints of all numbers", chains(append([]int64{int64(len(numbers()))}, numbers()...)...)...)
	}
}

// P6.1: each method alone, on a plain Writer.
func TestWriterAlone(t *testing.T) {
	for _, c := range []struct {
		what string
		put  func(w *Writer)
		want []byte
	}{
		{"nothing", func(w *Writer) {}, nil},
		{"no mark", func(w *Writer) { w.Mark("") }, nil},
		{"mark", func(w *Writer) { w.Mark("x") }, []byte("x")},
		{"0", func(w *Writer) { w.Int(0) }, []byte{0}},
		{"-1", func(w *Writer) { w.Int(-1) }, []byte{1}},
		{"64", func(w *Writer) { w.Int(64) }, []byte{128, 1}},
		{"true", func(w *Writer) { w.Bool(true) }, []byte{1}},
		{"false", func(w *Writer) { w.Bool(false) }, []byte{0}},
		{"no ints", func(w *Writer) { w.Ints(nil) }, []byte{0}},
		{"ints", func(w *Writer) { w.Ints([]int64{5, 6}) }, []byte{4, 10, 12}},
	} {
		w := new(Writer)
		c.put(w)
		if b := w.Bytes(); !bytes.Equal(b, c.want) {
			t.Errorf("%s: %v, not %v", c.what, b, c.want)
		}
	}
}

// P6.1: for a nil Writer nothing happens.
func TestNilWriter(t *testing.T) {
	var w *Writer
	for range 2 {
		if b := w.Bytes(); len(b) != 0 {
			t.Errorf("Bytes: %v", b)
		}
		w.Mark("a")
		w.Mark("")
		w.Int(5)
		w.Bool(true)
		w.Bool(false)
		w.Ints([]int64{1, 2})
		w.Ints(nil)
	}
}

// P6.1, P4: what was returned remains as it was, whoever writes afterwards, and
// no argument is modified.
func TestBytesAreTheirOwn(t *testing.T) {
	var w Writer
	l := []int64{7, -300}
	for range 40 {
		w.Ints(l)
		before := w.Bytes()
		kept := slices.Clone(before)
		w.Mark("more")
		w.Int(9)
		if !bytes.Equal(before, kept) {
			t.Fatalf("an earlier answer has changed: %v", before)
		}
		after := w.Bytes()
		for i := range before {
			before[i] = 255
		}
		_ = append(after[:len(kept)], 255)
		if !bytes.Equal(w.Bytes()[:len(kept)], kept) {
			t.Fatalf("an answer shares memory with the writer: %v", w.Bytes())
		}
	}
	if !slices.Equal(l, []int64{7, -300}) {
		t.Errorf("the list was modified: %v", l)
	}
	// A copy of a plain Writer is another plain Writer.
	var one Writer
	two := one
	one.Int(1)
	two.Int(2)
	if !bytes.Equal(one.Bytes(), []byte{2}) || !bytes.Equal(two.Bytes(), []byte{4}) {
		t.Errorf("two writers: %v, %v", one.Bytes(), two.Bytes())
	}
}

// P6.2, P6.3: a reader is at the beginning.
func TestOpen(t *testing.T) {
	for _, b := range [][]byte{nil, {}, {0}, {255}, []byte("tympan")} {
		r := Open(b)
		if r == nil {
			t.Fatalf("Open of %v: nil", b)
		}
		goes(t, "Open", r, 0)
	}
}

// P6.2: Mark reads s if it follows.
func TestReadMark(t *testing.T) {
	for _, c := range []struct {
		b    string
		s    string
		okay bool
	}{
		{"", "", true},
		{"a", "", true},
		{"a", "a", true},
		{"ab", "ab", true},
		{"abc", "ab", true},
		{"\xff\x00x", "\xff\x00", true},
		{"", "a", false},
		{"a", "ab", false}, // the bytes end within it
		{"ac", "ab", false},
		{"b", "a", false},
		{"bab", "ab", false}, // it does follow, but later
		{"a", "a\x00", false},
		{"A", "a", false},
	} {
		for _, lead := range []string{"", "0", "ab"} {
			r := Open([]byte(lead + c.b))
			r.Mark(lead)
			goes(t, "lead", r, len(lead))
			r.Mark(c.s)
			what := fmt.Sprintf("Mark of %q in %q", c.s, c.b)
			if c.okay {
				goes(t, what, r, len(lead)+len(c.s))
			} else {
				rests(t, what, r, len(lead))
			}
		}
	}
}

// P6.2: marks one after another, and no mark where the bytes end.
func TestReadMarks(t *testing.T) {
	r := Open([]byte("abcabc"))
	r.Mark("abc")
	goes(t, "first", r, 3)
	r.Mark("")
	goes(t, "none", r, 3)
	r.Mark("ab")
	goes(t, "second", r, 5)
	r.Mark("c")
	goes(t, "third", r, 6)
	r.Mark("")
	goes(t, "none at the end", r, 6)
	r.Mark("c")
	rests(t, "behind the end", r, 6)
}

// P6.2: Int reads a number whose chain follows.
func TestReadInt(t *testing.T) {
	for _, n := range numbers() {
		for _, tail := range [][]byte{nil, {0}, {255}} {
			b := chains(5, n)
			r := Open(append(slices.Clone(b), tail...))
			if x := r.Int(); x != 5 {
				t.Errorf("Int before %d: %d", n, x)
			}
			goes(t, "Int", r, 1)
			if x := r.Int(); x != n {
				t.Errorf("Int: %d, not %d", x, n)
			}
			goes(t, "Int", r, len(b))
		}
	}
}

// P6.2: Int stops before bytes that are no chain.
func TestReadNoInt(t *testing.T) {
	ten := bytes.Repeat([]byte{255}, 10)
	for _, bad := range [][]byte{
		nil,                    // no bytes are left
		{128},                  // they end in the middle
		{255, 255},             // also here
		ten[:9],                // and before the last one
		ten,                    // too long
		{128, 0},               // longer than necessary
		{255, 0, 1},            // also with more behind
		append(ten[:9:9], 2),   // more than 64 bits
		append(ten[:9:9], 129), // no end
	} {
		for lead := range 3 {
			r := Open(append(make([]byte, lead), bad...))
			for range lead {
				r.Int()
			}
			goes(t, "lead", r, lead)
			if n := r.Int(); n != 0 {
				t.Errorf("Int of %v: %d", bad, n)
			}
			rests(t, "Int of no chain", r, lead)
		}
	}
	for _, n := range numbers() { // every chain, cut off
		b := chains(n)
		for k := range len(b) {
			r := Open(b[:k])
			if x := r.Int(); x != 0 {
				t.Errorf("Int of a part of %d: %d", n, x)
			}
			rests(t, "Int of a part", r, 0)
		}
	}
}

// P6.2: Bool reads a byte 0 or 1, and stops before any other.
func TestReadBool(t *testing.T) {
	for c := range 256 {
		for lead := range 3 {
			r := Open(append(bytes.Repeat([]byte{1}, lead), byte(c), 1))
			for range lead {
				if !r.Bool() {
					t.Error("Bool of 1")
				}
			}
			if x := r.Bool(); x != (c == 1) {
				t.Errorf("Bool of %d: %v", c, x)
			}
			if c > 1 {
				rests(t, "Bool of no bool", r, lead)
				continue
			}
			goes(t, "Bool", r, lead+1)
			if !r.Bool() {
				t.Error("Bool of the last 1")
			}
			goes(t, "Bool", r, lead+2)
			if r.Bool() {
				t.Error("Bool behind the end")
			}
			rests(t, "Bool behind the end", r, lead+2)
		}
	}
	r := Open(nil)
	if r.Bool() {
		t.Error("Bool of no bytes")
	}
	rests(t, "Bool of no bytes", r, 0)
}

// P6.2: Count reads a number between 0 and the number of bytes left after it.
func TestReadCount(t *testing.T) {
	for _, left := range []int{0, 1, 2, 63, 64, 65, 127, 128, 200, 8191, 8192, 8193} {
		for _, n := range slices.Concat(numbers(), []int64{int64(left) - 1, int64(left), int64(left) + 1}) {
			for lead := range 2 {
				b := append(chains(0, n)[1-lead:], make([]byte, left)...)
				r := Open(b)
				for range lead {
					r.Int()
				}
				got := r.Count()
				if n < 0 || n > int64(left) {
					if got != 0 {
						t.Errorf("Count of %d with %d left: %d", n, left, got)
					}
					rests(t, "a Count that cannot be", r, lead)
					continue
				}
				if int64(got) != n {
					t.Errorf("Count of %d with %d left: %d", n, left, got)
				}
				goes(t, "Count", r, lead+chain.Size(n))
			}
		}
	}
}

// P6.2: the bytes left are those after the number, not those from it on.
func TestReadCountLeft(t *testing.T) {
	r := Open([]byte{2, 0}) // 1, and one byte
	if n := r.Count(); n != 1 {
		t.Errorf("all that is left: %d", n)
	}
	goes(t, "all that is left", r, 1)
	r = Open([]byte{2}) // 1, and none
	if n := r.Count(); n != 0 {
		t.Errorf("one more: %d", n)
	}
	rests(t, "one more", r, 0)
	r = Open([]byte{0, 0, 2, 1, 4, 9}) // bytes that were read are not left
	for range 2 {
		if n := r.Count(); n != 0 {
			t.Errorf("Count of 0: %d", n)
		}
	}
	if n := r.Count(); n != 1 {
		t.Errorf("Count of 1: %d", n)
	}
	r.Mark("\x01")
	if n := r.Count(); n != 0 {
		t.Errorf("Count of 2 with one byte left: %d", n)
	}
	rests(t, "Count of 2 with one byte left", r, 4)
}

// P6.2: Count of what is no chain.
func TestReadNoCount(t *testing.T) {
	for _, bad := range [][]byte{nil, {128}, {132, 0}, {255, 255}} {
		r := Open(append([]byte{1}, bad...))
		r.Bool()
		if n := r.Count(); n != 0 {
			t.Errorf("Count of %v: %d", bad, n)
		}
		rests(t, "Count of no chain", r, 1)
	}
}

// P6.2: Ints reads a Count and that many numbers, and stops before the part that
// could not be read.
func TestReadInts(t *testing.T) {
	for _, c := range []struct {
		what string
		b    []byte
		want []int64
		at   int
		okay bool
	}{
		{"none", []byte{0}, nil, 1, true},
		{"none, and more", []byte{0, 7}, nil, 1, true},
		{"one", []byte{2, 1}, []int64{-1}, 2, true},
		{"two, and more", []byte{4, 1, 128, 1, 5}, []int64{-1, 64}, 4, true},
		{"no bytes", nil, nil, 0, false},
		{"a part of a count", []byte{128}, nil, 0, false},
		{"a long count", []byte{128, 0}, nil, 0, false},
		{"a count below 0", []byte{1, 1, 1}, nil, 0, false},
		{"a count that is too great", []byte{4, 1}, nil, 0, false},
		{"no room for the second", []byte{4, 128, 1}, nil, 3, false},
		{"a part of the first", []byte{2, 128}, nil, 1, false},
		{"a part of the second", []byte{4, 2, 200}, nil, 2, false},
		{"a long second", []byte{6, 2, 129, 0, 1}, nil, 2, false},
		{"a long third", []byte{6, 2, 128, 1, 255, 0}, nil, 4, false},
	} {
		for lead := range 3 {
			r := Open(append(bytes.Repeat([]byte{1}, lead), c.b...))
			for range lead {
				r.Bool()
			}
			if l := r.Ints(); !slices.Equal(l, c.want) {
				t.Errorf("Ints, %s: %v, not %v", c.what, l, c.want)
			}
			if c.okay {
				goes(t, "Ints, "+c.what, r, lead+c.at)
			} else {
				rests(t, "Ints, "+c.what, r, lead+c.at)
			}
		}
	}
}

// pair is an element that is read in two parts.
type pair struct {
	n int64
	b bool
}

// pairs reads pairs and counts the calls.
type pairs struct {
	*Reader
	calls int
}

func (p *pairs) one() pair {
	p.calls++
	return pair{p.Int(), p.Bool()}
}

// P6.2: Each calls the function as often as the Count says, also if the reader
// stops on the way, and returns its results in order.
func TestEach(t *testing.T) {
	for _, c := range []struct {
		what  string
		b     []byte
		want  []pair
		at    int
		okay  bool
		calls int
	}{
		{"none", []byte{0}, nil, 1, true, 0},
		{"none, and more", []byte{0, 2, 1}, nil, 1, true, 0},
		{"one", []byte{2, 6, 1}, []pair{{3, true}}, 3, true, 1},
		{"three, and more", []byte{6, 6, 1, 128, 1, 0, 1, 1, 9}, []pair{{3, true}, {64, false}, {-1, true}}, 8, true, 3},
		{"no bytes", nil, nil, 0, false, 0},
		{"a part of a count", []byte{130}, nil, 0, false, 0},
		{"a count below 0", []byte{3, 6, 1}, nil, 0, false, 0},
		{"a count that is too great", []byte{8, 6, 1, 6}, nil, 0, false, 0},
		{"the first has no bool", []byte{2, 6}, nil, 2, false, 1},
		{"the second is none", []byte{6, 6, 1, 6, 2}, nil, 4, false, 3},
		{"the last is none", []byte{4, 6, 1, 128}, nil, 3, false, 2},
	} {
		for lead := range 2 {
			r := Open(append(make([]byte, lead), c.b...))
			for range lead {
				r.Int()
			}
			p := &pairs{Reader: r}
			if l := Each(r, p.one); !slices.Equal(l, c.want) {
				t.Errorf("Each, %s: %v, not %v", c.what, l, c.want)
			}
			if p.calls != c.calls {
				t.Errorf("Each, %s: %d calls, not %d", c.what, p.calls, c.calls)
			}
			if c.okay {
				goes(t, "Each, "+c.what, r, lead+c.at)
			} else {
				rests(t, "Each, "+c.what, r, lead+c.at)
			}
		}
	}
}

// P6.2: the function need not read, and what it stops is stopped.
func TestEachStops(t *testing.T) {
	for last := range 5 {
		r := Open([]byte{6, 1, 1, 1})
		calls := 0
		l := Each(r, func() int {
			if calls++; calls == last {
				r.Stop()
			}
			return calls
		})
		if calls != 3 {
			t.Errorf("stopped at %d: %d calls", last, calls)
		}
		if last < 1 || last > 3 {
			goes(t, "not stopped", r, 1)
			if !slices.Equal(l, []int{1, 2, 3}) {
				t.Errorf("not stopped: %v", l)
			}
			continue
		}
		rests(t, "stopped by the function", r, 1)
		if len(l) != 0 {
			t.Errorf("stopped at %d: %v", last, l)
		}
	}
}

// P6.2: elements that are lists, or read with the same function again.
func TestEachOfLists(t *testing.T) {
	b := []byte{6, 4, 2, 4, 0, 2, 5, 1}
	r := Open(b)
	l := Each(r, r.Ints)
	if len(l) != 3 || !slices.Equal(l[0], []int64{1, 2}) || len(l[1]) != 0 || !slices.Equal(l[2], []int64{-3}) {
		t.Errorf("lists: %v", l)
	}
	goes(t, "lists", r, 7)
	r = Open([]byte{6, 4, 2, 4, 0, 4, 5})
	if l := Each(r, r.Ints); len(l) != 0 {
		t.Errorf("lists with a count that is too great: %v", l)
	}
	rests(t, "lists with a count that is too great", r, 5)
	r = Open([]byte{4, 1, 0, 2})
	if l := Each(r, r.Bool); !slices.Equal(l, []bool{true, false}) {
		t.Errorf("bools: %v", l)
	}
	goes(t, "bools", r, 3)
	r = Open([]byte{4, 1, 2})
	if l := Each(r, r.Bool); len(l) != 0 {
		t.Errorf("no bools: %v", l)
	}
	rests(t, "no bools", r, 2)
}

// P1: without a function nothing can be called, and nothing panics.
func TestEachOfNoFunction(t *testing.T) {
	r := Open([]byte{2, 1})
	if l := Each[int](r, nil); len(l) != 0 {
		t.Errorf("no function: %v", l)
	}
	if l := Each[int](nil, nil); len(l) != 0 {
		t.Errorf("no function, no reader: %v", l)
	}
}

// P6.3: Stop at the beginning, in the middle and at the end.
func TestStop(t *testing.T) {
	b := []byte{1, 0, 2}
	for k := range len(b) + 1 {
		r := Open(b)
		for range k {
			r.Int()
		}
		goes(t, "before Stop", r, k)
		r.Stop()
		rests(t, "after Stop", r, k)
	}
	r := Open(nil)
	goes(t, "no bytes", r, 0)
	r.Stop()
	rests(t, "no bytes", r, 0)
}

// P6.3: End is OK only at the end, also if asked again and again.
func TestEnd(t *testing.T) {
	b := chains(1, 64, -1)
	r := Open(b)
	for _, at := range []int{0, 1, 3, 4} {
		for range 2 {
			goes(t, "on the way", r, at)
		}
		r.Int()
	}
	rests(t, "behind the end", r, 4)
}

// P6.2, P6.3: a nil reader reads nothing, has stopped, and is at 0; Each does not
// call its function.
func TestNilReader(t *testing.T) {
	var r *Reader
	rests(t, "nil", r, 0)
	if l := Each(r, func() int { t.Error("called"); return 1 }); len(l) != 0 {
		t.Errorf("Each: %v", l)
	}
	if l := Each(r, r.Int); len(l) != 0 {
		t.Errorf("Each of Int: %v", l)
	}
}

// P6.4: what was written is read in the same order, to the end.
func TestThereAndBack(t *testing.T) {
	var w Writer
	for _, n := range numbers() {
		w.Int(n)
		w.Bool(n%2 == 0)
		for _, s := range texts() {
			w.Mark(s)
			w.Ints([]int64{n, int64(len(s))})
		}
		w.Ints(nil)
	}
	w.Ints(numbers())
	b := w.Bytes()
	kept := slices.Clone(b)
	r := Open(b)
	for _, n := range numbers() {
		if x, even := r.Int(), r.Bool(); x != n || even != (n%2 == 0) {
			t.Fatalf("%d, %v where %d was written", x, even, n)
		}
		for _, s := range texts() {
			r.Mark(s)
			if l := r.Ints(); !slices.Equal(l, []int64{n, int64(len(s))}) {
				t.Fatalf("%v where %d, %d were written", l, n, len(s))
			}
		}
		if l := r.Ints(); len(l) != 0 {
			t.Fatalf("%v where nothing was written", l)
		}
		holds(t, "on the way", r, r.At(), true, api.ErrForm)
	}
	if l := r.Ints(); !slices.Equal(l, numbers()) {
		t.Errorf("the last list: %v", l)
	}
	holds(t, "all was read", r, len(b), true, api.OK)
	if !bytes.Equal(b, kept) {
		t.Error("the bytes were modified")
	}
}

// P6.4: in any sequence of up to four writes, each read returns what was written
// and is where its writing ended.
func TestSequences(t *testing.T) {
	puts := []func(w *Writer){
		func(w *Writer) { w.Mark("") },
		func(w *Writer) { w.Mark("xy") },
		func(w *Writer) { w.Int(-300) },
		func(w *Writer) { w.Bool(true) },
		func(w *Writer) { w.Bool(false) },
		func(w *Writer) { w.Ints(nil) },
		func(w *Writer) { w.Ints([]int64{math.MinInt64, 0, 65}) },
	}
	gets := []func(r *Reader) bool{
		func(r *Reader) bool { r.Mark(""); return true },
		func(r *Reader) bool { r.Mark("xy"); return true },
		func(r *Reader) bool { return r.Int() == -300 },
		func(r *Reader) bool { return r.Bool() },
		func(r *Reader) bool { return !r.Bool() },
		func(r *Reader) bool { return len(r.Ints()) == 0 },
		func(r *Reader) bool { return slices.Equal(r.Ints(), []int64{math.MinInt64, 0, 65}) },
	}
	k := len(puts)
	for code := range k * k * k * k {
		var w Writer
		var ends []int
		for i, c := 0, code; i < 4; i, c = i+1, c/k {
			puts[c%k](&w)
			ends = append(ends, len(w.Bytes()))
		}
		r := Open(w.Bytes())
		for i, c := 0, code; i < 4; i, c = i+1, c/k {
			if !gets[c%k](r) || !r.Right() || r.At() != ends[i] {
				t.Fatalf("sequence %d, part %d: at %d, right %v", code, i, r.At(), r.Right())
			}
		}
		if r.End() != api.OK {
			t.Fatalf("sequence %d: not at the end", code)
		}
	}
}

// P5: readers of the same bytes do not know of each other.
func TestTwoReaders(t *testing.T) {
	b := []byte{2, 4, 1}
	one, two := Open(b), Open(b)
	one.Int()
	one.Stop()
	goes(t, "the other reader", two, 0)
	if n := two.Int(); n != 1 {
		t.Errorf("the other reader: %d", n)
	}
	rests(t, "the first reader", one, 1)
	goes(t, "the other reader", two, 1)
}
