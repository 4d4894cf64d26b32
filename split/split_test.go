package split

import (
	"cmp"
	"fmt"
	"math"
	"math/big"
	"math/rand"
	"reflect"
	"slices"
	"sync"
	"testing"

	"tympan/api"
)

const (
	least = api.Sp(math.MinInt64)
	most  = api.Sp(math.MaxInt64)
	// top is 2^50, beyond which no height is told.
	top = api.Sp(1125899906842624)
)

// foot returns a note of count lines, whose heights all differ, with these
// penalties.
func foot(count int, pens ...int) api.Note {
	n := api.Note{Pens: pens}
	for i := range count {
		n.Lines = append(n.Lines, api.Sp(1)<<i)
	}
	return n
}

func piece(n, from, to int) api.Piece { return api.Piece{N: n, From: from, To: to} }

// alphabet are notes that may be split before every line, before some and before
// none, and that have no lines, or fewer penalties than lines ask, or more.
func alphabet() []api.Note {
	return []api.Note{
		foot(1), foot(2, 0), foot(3, 0, 9999), foot(3, 10000, 7), foot(3, 10000, 10001), foot(4, 5, 10000, -1),
		foot(0), foot(0, 3, 4), foot(3), foot(3, 6), foot(2, 0, 0, 0),
	}
}

// lists are all lists of up to two notes of the alphabet, those of three of some of
// them, and longer ones.
func lists() [][]api.Note {
	all := [][]api.Note{nil, {}, alphabet(), {foot(32, slices.Repeat([]int{1}, 31)...), foot(5, 0, 0, 0, 0)}}
	for _, a := range alphabet() {
		all = append(all, []api.Note{a})
		for _, b := range alphabet() {
			all = append(all, []api.Note{a, b})
		}
	}
	some := []api.Note{foot(1), foot(3, 0, 1), foot(3, 10000, 7), foot(0), foot(3, 6)}
	for _, a := range some {
		for _, b := range some {
			for _, c := range some {
				all = append(all, []api.Note{a, b, c})
			}
		}
	}
	return all
}

// around are the numbers from 0 to n, some on both sides and the extreme ones.
func around(n int) []int {
	l := []int{math.MinInt, math.MinInt + 1}
	for i := -2; i <= n+2; i++ {
		l = append(l, i)
	}
	return append(l, math.MaxInt-1, math.MaxInt)
}

// spots are those in and around the notes l.
func spots(l []api.Note) []Spot {
	var all []Spot
	for _, n := range around(len(l)) {
		lines := 0
		if n >= 0 && n < len(l) {
			lines = len(l[n].Lines)
		}
		for _, line := range around(lines) {
			for _, begun := range around(len(l)) {
				all = append(all, Spot{n, line, begun, false}, Spot{n, line, begun, true})
			}
		}
	}
	return all
}

// The definitions of the chapters, as the texts have them.

func mayEnd(n api.Note, at int) bool {
	split := at >= 1 && at < len(n.Lines) && at-1 < len(n.Pens) && n.Pens[at-1] < 10000
	return split || at == len(n.Lines)
}

// openNotes are the existing notes from Note up to, but not including, Begun.
func openNotes(l []api.Note, s Spot) []int {
	var open []int
	for n := range l {
		if n >= s.Note && n < s.Begun {
			open = append(open, n)
		}
	}
	return open
}

// isChoice reports whether the pieces are a choice.
func isChoice(l []api.Note, s Spot, pieces []api.Piece) bool {
	open := openNotes(l, s)
	if s.Note < 0 || s.Line < 0 || len(open) == 0 {
		return len(pieces) == 0
	}
	if len(pieces) == 0 {
		return !s.Fresh
	}
	if len(pieces) != len(open) {
		return false
	}
	for i, p := range pieces {
		from := 0
		if p.N == s.Note {
			from = s.Line
		}
		if p.N != open[i] || p.From != from {
			return false
		}
		if i < len(open)-1 && p.To != len(l[p.N].Lines) {
			return false
		}
	}
	// What is set of the last note has a line.
	last := pieces[len(pieces)-1]
	return last.To > last.From && mayEnd(l[last.N], last.To)
}

// count is the number of lines of pieces whose numbers are small.
func count(pieces []api.Piece) int {
	lines := 0
	for _, p := range pieces {
		for i := p.From; i < p.To; i++ {
			lines++
		}
	}
	return lines
}

// choices are all lists of pieces, with any end of the last one, that are choices.
func choices(l []api.Note, s Spot) [][]api.Piece {
	var all [][]api.Piece
	if isChoice(l, s, nil) {
		all = append(all, nil)
	}
	open := openNotes(l, s)
	if len(open) == 0 {
		return all
	}
	for to := range len(l[open[len(open)-1]].Lines) + 2 {
		var pieces []api.Piece
		for _, n := range open {
			p := api.Piece{N: n, To: len(l[n].Lines)}
			if n == s.Note {
				p.From = s.Line
			}
			pieces = append(pieces, p)
		}
		pieces[len(pieces)-1].To = to
		if isChoice(l, s, pieces) {
			all = append(all, pieces)
		}
	}
	slices.SortFunc(all, func(a, b []api.Piece) int { return cmp.Compare(count(a), count(b)) })
	return all
}

// equal reports whether both are the same lists of pieces, nil or empty.
func equal(a, b [][]api.Piece) bool { return slices.EqualFunc(a, b, slices.Equal) }

// expectChoices holds Choices, and what Least and May say of them, against what is
// required.
func expectChoices(t *testing.T, l []api.Note, s Spot, want [][]api.Piece) {
	t.Helper()
	if got := Choices(l, s); !equal(got, want) {
		t.Errorf("%v: Choices for %v = %v, want %v", l, s, got, want)
	}
	var first []api.Piece
	if len(want) > 0 {
		first = want[0]
	}
	if got := Least(l, s); !slices.Equal(got, first) {
		t.Errorf("%v: Least for %v = %v, want %v", l, s, got, first)
	}
	for _, c := range want {
		expectMay(t, l, s, c, true)
	}
}

func expectMay(t *testing.T, l []api.Note, s Spot, pieces []api.Piece, want bool) {
	t.Helper()
	if got := May(l, s, pieces); got != want {
		t.Errorf("%v: May for %v of %v = %v", l, s, pieces, got)
	}
}

// P22.1: the chapter's example.
func TestExample(t *testing.T) {
	l := []api.Note{foot(2, 0), foot(3, 0, 0)}
	s := Spot{Begun: 2, Fresh: true}
	first := api.Piece{N: 0, To: 2}
	expectChoices(t, l, s, [][]api.Piece{{first, {N: 1, To: 1}}, {first, {N: 1, To: 2}}, {first, {N: 1, To: 3}}})
	l[1].Pens[0] = 10000
	expectChoices(t, l, s, [][]api.Piece{{first, {N: 1, To: 2}}, {first, {N: 1, To: 3}}})
	l[1].Pens[1] = 10000
	expectChoices(t, l, s, [][]api.Piece{{first, {N: 1, To: 3}}})
}

// P22.1: all choices, and the least one, at every spot in and around the notes.
func TestChoicesAtEverySpot(t *testing.T) {
	for _, l := range lists() {
		for _, s := range spots(l) {
			expectChoices(t, l, s, choices(l, s))
			expectMay(t, l, s, nil, isChoice(l, s, nil))
		}
	}
}

// none is the list with nothing but the empty choice.
func none() [][]api.Piece { return [][]api.Piece{nil} }

// P22.1: written out for one list of notes, which may be split before some lines.
func TestChoicesByHand(t *testing.T) {
	l := []api.Note{foot(3, 0, 10000), foot(1), foot(4, 10000, 9999, 0)}
	rows := []struct {
		s    Spot
		want [][]api.Piece
	}{
		{Spot{0, 0, 1, true}, [][]api.Piece{{piece(0, 0, 1)}, {piece(0, 0, 3)}}},
		{Spot{0, 0, 1, false}, [][]api.Piece{nil, {piece(0, 0, 1)}, {piece(0, 0, 3)}}},
		{Spot{0, 1, 1, false}, [][]api.Piece{nil, {piece(0, 1, 3)}}},
		{Spot{0, 2, 1, true}, [][]api.Piece{{piece(0, 2, 3)}}},
		{Spot{0, 0, 2, true}, [][]api.Piece{{piece(0, 0, 3), piece(1, 0, 1)}}},
		{Spot{0, 2, 2, false}, [][]api.Piece{nil, {piece(0, 2, 3), piece(1, 0, 1)}}},
		{Spot{0, 1, 3, true}, [][]api.Piece{
			{piece(0, 1, 3), piece(1, 0, 1), piece(2, 0, 2)}, {piece(0, 1, 3), piece(1, 0, 1), piece(2, 0, 3)}, {piece(0, 1, 3), piece(1, 0, 1), piece(2, 0, 4)},
		}},
		{Spot{1, 0, 3, true}, [][]api.Piece{{piece(1, 0, 1), piece(2, 0, 2)}, {piece(1, 0, 1), piece(2, 0, 3)}, {piece(1, 0, 1), piece(2, 0, 4)}}},
		{Spot{2, 0, 3, true}, [][]api.Piece{{piece(2, 0, 2)}, {piece(2, 0, 3)}, {piece(2, 0, 4)}}},
		{Spot{2, 1, 3, true}, [][]api.Piece{{piece(2, 1, 2)}, {piece(2, 1, 3)}, {piece(2, 1, 4)}}},
		{Spot{2, 2, 3, false}, [][]api.Piece{nil, {piece(2, 2, 3)}, {piece(2, 2, 4)}}},
		{Spot{2, 3, 3, false}, [][]api.Piece{nil, {piece(2, 3, 4)}}},
		{Spot{2, 3, 4, false}, [][]api.Piece{nil, {piece(2, 3, 4)}}},
		{Spot{2, 3, math.MaxInt, true}, [][]api.Piece{{piece(2, 3, 4)}}},
		// No notes are open.
		{Spot{0, 0, 0, true}, none()},
		{Spot{0, 0, -1, false}, none()},
		{Spot{0, 0, math.MinInt, true}, none()},
		{Spot{1, 0, 1, true}, none()},
		{Spot{2, 1, 1, true}, none()},
		{Spot{3, 0, 3, true}, none()},
		{Spot{3, 0, 4, true}, none()},
		{Spot{3, 1, math.MaxInt, false}, none()},
		{Spot{math.MaxInt, 0, math.MaxInt, true}, none()},
		{Spot{math.MaxInt, math.MaxInt, math.MinInt, true}, none()},
		// Note or Line is below 0.
		{Spot{-1, 0, 3, true}, none()},
		{Spot{-1, 0, 3, false}, none()},
		{Spot{0, -1, 3, true}, none()},
		{Spot{2, -1, 3, false}, none()},
		{Spot{math.MinInt, math.MinInt, math.MaxInt, true}, none()},
		{Spot{0, math.MinInt, 1, true}, none()},
		// No line is left of the note Note.
		{Spot{0, 3, 1, false}, none()},
		{Spot{0, 3, 1, true}, nil},
		{Spot{0, 4, 1, false}, none()},
		{Spot{0, math.MaxInt, 1, true}, nil},
		{Spot{2, 4, 3, true}, nil},
		{Spot{0, 3, 2, true}, [][]api.Piece{{piece(0, 3, 3), piece(1, 0, 1)}}},
		{Spot{0, 5, 2, false}, [][]api.Piece{nil, {piece(0, 5, 3), piece(1, 0, 1)}}},
	}
	for _, r := range rows {
		expectChoices(t, l, r.s, r.want)
	}
}

// P22.1: notes that are not valid: without lines, and with fewer penalties than
// lines ask.
func TestChoicesOfInvalidNotes(t *testing.T) {
	l := []api.Note{foot(0, 1, 2), foot(3, 4), foot(0)}
	expectChoices(t, l, Spot{0, 0, 1, true}, nil)
	expectChoices(t, l, Spot{0, 0, 1, false}, none())
	expectChoices(t, l, Spot{0, 0, 2, true}, [][]api.Piece{{piece(0, 0, 0), piece(1, 0, 1)}, {piece(0, 0, 0), piece(1, 0, 3)}})
	expectChoices(t, l, Spot{1, 1, 2, false}, [][]api.Piece{nil, {piece(1, 1, 3)}})
	expectChoices(t, l, Spot{1, 0, 3, true}, nil)
	expectChoices(t, l, Spot{1, 0, 3, false}, none())
	wrong := api.Note{Lines: []api.Sp{-1, least, most}, Pens: []int{math.MinInt, math.MaxInt}}
	expectChoices(t, []api.Note{wrong}, Spot{0, 0, 1, true}, [][]api.Piece{{piece(0, 0, 1)}, {piece(0, 0, 3)}})
}

// P22.1: a note of 64 lines has as many choices, and only the last note is split.
func TestManyChoices(t *testing.T) {
	n := foot(64, make([]int, 63)...)
	for from := range 64 {
		got := Choices([]api.Note{n, n}, Spot{0, from, 2, true})
		if len(got) != 64 {
			t.Fatalf("%d choices from %d", len(got), from)
		}
		for i, c := range got {
			if !slices.Equal(c, []api.Piece{{N: 0, From: from, To: 64}, {N: 1, To: i + 1}}) {
				t.Errorf("choice %d from %d: %v", i, from, c)
			}
		}
	}
	all := slices.Repeat([]api.Note{foot(1)}, 512)
	got := Choices(all, Spot{Begun: 512, Fresh: true})
	if len(got) != 1 || len(got[0]) != 512 || got[0][511] != (api.Piece{N: 511, To: 1}) {
		t.Errorf("%d choices for 512 notes", len(got))
	}
}

// like are lists of pieces that differ from these in little.
func like(pieces []api.Piece) [][]api.Piece {
	var all [][]api.Piece
	for i := range pieces {
		for _, d := range []int{-2, -1, 1, 2, math.MinInt, math.MaxInt} {
			for _, field := range []func(p *api.Piece) *int{
				func(p *api.Piece) *int { return &p.N },
				func(p *api.Piece) *int { return &p.From },
				func(p *api.Piece) *int { return &p.To },
			} {
				c := slices.Clone(pieces)
				*field(&c[i]) += d
				all = append(all, c)
			}
		}
		all = append(all, slices.Delete(slices.Clone(pieces), i, i+1), slices.Insert(slices.Clone(pieces), i, pieces[i]))
	}
	for _, p := range []api.Piece{{}, {N: 0, To: 1}, {N: 1, To: 1}, {N: 2, To: 1}, {N: 3, To: 1}, {N: -1}} {
		all = append(all, append(slices.Clone(pieces), p), append([]api.Piece{p}, pieces...))
	}
	turned := slices.Clone(pieces)
	slices.Reverse(turned)
	return append(all, turned)
}

// P22.1: lists that are almost a choice are one only if the definition says so.
func TestMayOfNothingElse(t *testing.T) {
	for _, l := range lists() {
		if len(l) > 3 {
			continue
		}
		for n := range len(l) + 1 {
			for line := range 4 {
				for begun := range len(l) + 2 {
					for _, fresh := range []bool{false, true} {
						s := Spot{n, line, begun, fresh}
						for _, c := range append(choices(l, s), nil) {
							for _, pieces := range like(c) {
								expectMay(t, l, s, pieces, isChoice(l, s, pieces))
							}
						}
					}
				}
			}
		}
	}
}

// P22.1: written out for two notes: what is no choice, and the few that are.
func TestMayByHand(t *testing.T) {
	l := []api.Note{foot(2, 0), foot(3, 10000, 7), foot(2, 0)}
	s := Spot{0, 1, 2, true}
	rows := []struct {
		pieces []api.Piece
		want   bool
	}{
		{[]api.Piece{piece(0, 1, 2), piece(1, 0, 2)}, true},
		{[]api.Piece{piece(0, 1, 2), piece(1, 0, 3)}, true},
		{nil, false},
		{[]api.Piece{}, false},
		{[]api.Piece{piece(0, 1, 2), piece(1, 0, 1)}, false},
		{[]api.Piece{piece(0, 1, 2), piece(1, 0, 0)}, false},
		{[]api.Piece{piece(0, 1, 2), piece(1, 0, 4)}, false},
		{[]api.Piece{piece(0, 1, 2), piece(1, 0, -1)}, false},
		{[]api.Piece{piece(0, 1, 2), piece(1, 1, 3)}, false},
		{[]api.Piece{piece(0, 1, 2), piece(2, 0, 2)}, false},
		{[]api.Piece{piece(0, 0, 2), piece(1, 0, 3)}, false},
		{[]api.Piece{piece(0, 1, 1), piece(1, 0, 3)}, false},
		{[]api.Piece{piece(0, 1, 3), piece(1, 0, 3)}, false},
		{[]api.Piece{piece(-1, 1, 2), piece(1, 0, 3)}, false},
		{[]api.Piece{piece(0, 1, 2)}, false},
		{[]api.Piece{piece(1, 0, 3)}, false},
		{[]api.Piece{piece(0, 1, 2), piece(1, 0, 3), piece(2, 0, 2)}, false},
		{[]api.Piece{piece(0, 1, 2), piece(1, 0, 2), piece(1, 2, 3)}, false},
		{[]api.Piece{piece(1, 0, 3), piece(0, 1, 2)}, false},
		{[]api.Piece{piece(0, 1, 2), piece(0, 1, 2)}, false},
	}
	for _, r := range rows {
		expectMay(t, l, s, r.pieces, r.want)
	}
	s.Fresh = false
	for _, r := range rows {
		expectMay(t, l, s, r.pieces, r.want || len(r.pieces) == 0)
	}
	for _, s := range []Spot{{-1, 0, 3, true}, {0, -1, 3, true}, {0, 0, 0, true}, {3, 0, 4, true}} {
		for _, r := range rows {
			expectMay(t, l, s, r.pieces, len(r.pieces) == 0)
		}
	}
}

// P22.2: the position behind the last piece, in one list of notes.
func TestNext(t *testing.T) {
	l := []api.Note{foot(3, 0, 0), foot(1), foot(0), foot(4)}
	rows := []struct {
		pieces     []api.Piece
		note, line int
	}{
		{[]api.Piece{piece(0, 0, 1)}, 0, 1},
		{[]api.Piece{piece(0, 0, 2)}, 0, 2},
		{[]api.Piece{piece(0, 0, 3)}, 1, 0},
		{[]api.Piece{piece(0, 2, 3)}, 1, 0},
		{[]api.Piece{piece(0, 0, 0)}, 0, 0},
		{[]api.Piece{piece(0, 0, -1)}, 0, -1},
		{[]api.Piece{piece(0, 0, math.MinInt)}, 0, math.MinInt},
		{[]api.Piece{piece(1, 0, 1)}, 2, 0},
		{[]api.Piece{piece(1, 0, 0)}, 1, 0},
		{[]api.Piece{piece(2, 0, 0)}, 3, 0},
		{[]api.Piece{piece(3, 0, 3)}, 3, 3},
		{[]api.Piece{piece(3, 0, 4)}, 4, 0},
		{[]api.Piece{piece(3, 9, 4)}, 4, 0},
		{[]api.Piece{piece(0, 0, 3), piece(1, 0, 1)}, 2, 0},
		{[]api.Piece{piece(3, 0, 4), piece(0, 0, 2)}, 0, 2},
		{[]api.Piece{piece(0, 0, 3), piece(1, 0, 1), piece(2, 0, 0), piece(3, 0, 2)}, 3, 2},
		{[]api.Piece{piece(0, 0, 1), piece(0, 1, 3)}, 1, 0},
		// Notes that do not exist have no end.
		{[]api.Piece{piece(4, 0, 2)}, 4, 2},
		{[]api.Piece{piece(4, 0, 0)}, 4, 0},
		{[]api.Piece{piece(-1, 0, 3)}, -1, 3},
		{[]api.Piece{piece(-1, 0, 0)}, -1, 0},
		{[]api.Piece{piece(math.MaxInt, 0, math.MaxInt)}, math.MaxInt, math.MaxInt},
		{[]api.Piece{piece(math.MinInt, 0, 1)}, math.MinInt, 1},
		{[]api.Piece{piece(0, 0, 3), piece(7, 0, 3)}, 7, 3},
	}
	for _, s := range []Spot{{}, {2, 5, 3, true}, {-4, math.MaxInt, 0, false}} {
		for _, r := range rows {
			if n, line := Next(l, s, r.pieces); n != r.note || line != r.line {
				t.Errorf("Next of %v = %d, %d, want %d, %d", r.pieces, n, line, r.note, r.line)
			}
		}
	}
}

// P22.2: without pieces, Next is the position of the spot, whatever it is.
func TestNextWithoutPieces(t *testing.T) {
	for _, l := range [][]api.Note{nil, {}, {foot(3, 0, 0), foot(1)}} {
		for _, s := range spots(l) {
			for _, pieces := range [][]api.Piece{nil, {}} {
				if n, line := Next(l, s, pieces); n != s.Note || line != s.Line {
					t.Errorf("Next for %v = %d, %d", s, n, line)
				}
			}
		}
	}
}

// P22.2: the end of a note is the number of its lines, and a To beyond it is the
// position after the piece as it stands.
func TestNextBeyondTheEnd(t *testing.T) {
	l := []api.Note{foot(0), foot(3, 0, 0), foot(0, 3, 4), foot(1)}
	rows := []struct {
		piece      api.Piece
		note, line int
	}{
		{piece(0, 0, 0), 1, 0},
		{piece(0, 0, 1), 0, 1},
		{piece(0, 0, 2), 0, 2},
		{piece(0, 0, math.MaxInt), 0, math.MaxInt},
		{piece(1, 0, 2), 1, 2},
		{piece(1, 0, 3), 2, 0},
		{piece(1, 0, 4), 1, 4},
		{piece(1, 2, 1<<30), 1, 1 << 30},
		{piece(1, 4, 5), 1, 5},
		{piece(1, 0, math.MaxInt), 1, math.MaxInt},
		{piece(2, 0, 0), 3, 0},
		{piece(2, 0, 1), 2, 1},
		{piece(2, 0, 2), 2, 2},
		{piece(3, 0, 1), 4, 0},
		{piece(3, 0, 2), 3, 2},
		{piece(3, 1, 64), 3, 64},
	}
	for _, s := range []Spot{{}, {1, 2, 3, true}, {-1, -1, math.MinInt, false}} {
		for _, r := range rows {
			for _, pieces := range [][]api.Piece{{r.piece}, {piece(1, 0, 3), r.piece}, {piece(0, 0, 9), r.piece}} {
				if n, line := Next(l, s, pieces); n != r.note || line != r.line {
					t.Errorf("Next of %v = %d, %d, want %d, %d", pieces, n, line, r.note, r.line)
				}
			}
		}
	}
}

// P22.2: every To in and around every note, from every line: only the number of
// lines leads to the next note.
func TestNextOfEveryPiece(t *testing.T) {
	l := append(alphabet(), foot(64, make([]int, 63)...))
	for i := range l {
		lines := len(l[i].Lines)
		for _, from := range around(lines) {
			for _, to := range around(lines) {
				note, line := i, to
				if to == lines {
					note, line = i+1, 0
				}
				if n, at := Next(l, Spot{}, []api.Piece{piece(i, from, to)}); n != note || at != line {
					t.Errorf("Next of note %d to %d = %d, %d, want %d, %d", i, to, n, at, note, line)
				}
			}
		}
	}
}

// tall is the text of High in exact numbers.
func tall(l []api.Note, pieces []api.Piece, rule api.Sp) api.Sp {
	sum := new(big.Int)
	if len(pieces) > 0 && rule > 0 {
		sum.SetInt64(int64(rule))
	}
	for _, p := range pieces {
		for n, x := range l {
			for i, h := range x.Lines {
				if n == p.N && i >= p.From && i < p.To && h > 0 {
					sum.Add(sum, big.NewInt(int64(h)))
				}
			}
		}
	}
	if sum.Cmp(big.NewInt(int64(top))) > 0 {
		return top
	}
	return api.Sp(sum.Int64())
}

// rules are of every size.
func rules() []api.Sp {
	return []api.Sp{least, -top, -1, 0, 1, 7, 1 << 29, top - 8, top - 7, top - 6, top - 1, top, top + 1, most - 1, most}
}

func expectHigh(t *testing.T, l []api.Note, pieces []api.Piece, rule, want api.Sp) {
	t.Helper()
	if got := High(l, pieces, rule); got != want {
		t.Errorf("High of %v of %v with %d = %d, want %d", pieces, l, rule, got, want)
	}
}

// P22.2: the heights of one and of two pieces, everywhere in and around the notes.
func TestHighEverywhere(t *testing.T) {
	l := []api.Note{foot(3, 0, 0), foot(0), {Lines: []api.Sp{-5, 40, least, 800}}}
	ends := []int{math.MinInt, -1, 0, 1, 2, 3, 4, 5, math.MaxInt}
	for _, n := range around(len(l)) {
		for _, from := range ends {
			for _, to := range ends {
				p := api.Piece{N: n, From: from, To: to}
				for _, pieces := range [][]api.Piece{{p}, {p, {N: 0, To: 2}}, {{N: 2, To: 2}, p}, {p, p}} {
					for _, rule := range []api.Sp{-3, 0, 9} {
						expectHigh(t, l, pieces, rule, tall(l, pieces, rule))
					}
				}
			}
		}
	}
}

// P22.2: written out, with sums at 2^50, below it and beyond it.
func TestHighByHand(t *testing.T) {
	l := []api.Note{{Lines: []api.Sp{2, 3}}, {Lines: []api.Sp{top - 5, 1, 4}}, {Lines: []api.Sp{most, most}}, {Lines: []api.Sp{-9, least}}}
	rows := []struct {
		pieces     []api.Piece
		rule, want api.Sp
	}{
		{nil, 7, 0},
		{[]api.Piece{}, most, 0},
		{[]api.Piece{piece(0, 0, 2)}, 0, 5},
		{[]api.Piece{piece(0, 0, 2)}, -1, 5},
		{[]api.Piece{piece(0, 0, 2)}, least, 5},
		{[]api.Piece{piece(0, 0, 2)}, 7, 12},
		{[]api.Piece{piece(0, 1, 2), piece(0, 0, 1)}, 7, 12},
		{[]api.Piece{piece(0, 0, 2), piece(0, 0, 2), piece(0, 0, 2)}, 1, 16},
		{[]api.Piece{piece(0, -4, 9)}, 1, 6},
		{[]api.Piece{piece(0, 2, 2)}, 1, 1},
		{[]api.Piece{piece(0, 2, 0)}, 1, 1},
		{[]api.Piece{piece(-1, 0, 2)}, 1, 1},
		{[]api.Piece{piece(4, 0, 2)}, 1, 1},
		{[]api.Piece{piece(math.MinInt, 0, 2), piece(0, 0, 1), piece(math.MaxInt, 0, 2)}, 0, 2},
		{[]api.Piece{piece(3, 0, 2)}, 0, 0},
		{[]api.Piece{piece(3, 0, 2), piece(0, 0, 2)}, 4, 9},
		{[]api.Piece{piece(0, 0, 2)}, top - 6, top - 1},
		{[]api.Piece{piece(0, 0, 2)}, top - 5, top},
		{[]api.Piece{piece(0, 0, 2)}, top - 4, top},
		{[]api.Piece{piece(0, 0, 2)}, top, top},
		{[]api.Piece{piece(0, 0, 2)}, most, top},
		{[]api.Piece{piece(9, 0, 2)}, most, top},
		{[]api.Piece{piece(1, 0, 2)}, 3, top - 1},
		{[]api.Piece{piece(1, 0, 2)}, 4, top},
		{[]api.Piece{piece(1, 0, 2)}, 5, top},
		{[]api.Piece{piece(1, 0, 3)}, 0, top},
		{[]api.Piece{piece(1, 0, 3)}, 1, top},
		{[]api.Piece{piece(1, 0, 1), piece(0, 0, 1)}, 2, top - 1},
		{[]api.Piece{piece(1, 0, 1), piece(0, 0, 2)}, 0, top},
		{[]api.Piece{piece(1, 0, 1), piece(0, 0, 2), piece(0, 0, 2)}, 0, top},
		{[]api.Piece{piece(2, 0, 1)}, 0, top},
		{[]api.Piece{piece(2, 0, 2), piece(2, 0, 2)}, most, top},
		{[]api.Piece{piece(2, 0, 2), piece(3, 0, 2), piece(0, 0, 2)}, -1, top},
	}
	for _, r := range rows {
		expectHigh(t, l, r.pieces, r.rule, r.want)
		expectHigh(t, l, r.pieces, r.rule, tall(l, r.pieces, r.rule))
	}
	for _, rule := range rules() {
		for _, r := range rows {
			expectHigh(t, l, r.pieces, rule, tall(l, r.pieces, rule))
		}
	}
	many := slices.Repeat([]api.Piece{{N: 2, To: 2}}, 40000)
	expectHigh(t, l, many, most, top)
}

// P22.2: the number of lines, with To above, at and below From.
func TestLines(t *testing.T) {
	rows := []struct {
		pieces []api.Piece
		want   int
	}{
		{nil, 0},
		{[]api.Piece{}, 0},
		{[]api.Piece{piece(0, 0, 3)}, 3},
		{[]api.Piece{piece(0, 2, 3)}, 1},
		{[]api.Piece{piece(0, 3, 3)}, 0},
		{[]api.Piece{piece(0, 4, 3)}, 0},
		{[]api.Piece{piece(0, 9, 3)}, 0},
		{[]api.Piece{piece(0, -2, 3)}, 5},
		{[]api.Piece{piece(0, -5, -2)}, 3},
		{[]api.Piece{piece(0, -2, -5)}, 0},
		{[]api.Piece{piece(-1, 0, 2)}, 2},
		{[]api.Piece{piece(math.MaxInt, 7, 9)}, 2},
		{[]api.Piece{piece(0, 0, 3), piece(1, 0, 4)}, 7},
		{[]api.Piece{piece(0, 0, 3), piece(1, 8, 4)}, 3},
		{[]api.Piece{piece(1, 8, 4), piece(0, 0, 3)}, 3},
		{[]api.Piece{piece(0, 5, 1), piece(0, 2, 4), piece(0, 3, 3), piece(5, 10, 11)}, 3},
		{[]api.Piece{piece(0, 0, math.MaxInt)}, math.MaxInt},
		{[]api.Piece{piece(0, 1, math.MaxInt), piece(0, 0, 1)}, math.MaxInt},
		{[]api.Piece{piece(0, math.MaxInt, 0)}, 0},
		{[]api.Piece{piece(0, math.MaxInt, math.MinInt)}, 0},
		{[]api.Piece{piece(0, 0, math.MinInt), piece(0, 0, 1)}, 1},
		{[]api.Piece{piece(0, math.MinInt, math.MinInt+2)}, 2},
		{[]api.Piece{piece(0, math.MinInt, -1)}, math.MaxInt},
	}
	for _, r := range rows {
		if got := Lines(r.pieces); got != r.want {
			t.Errorf("Lines of %v = %d, want %d", r.pieces, got, r.want)
		}
	}
	if got := Lines(slices.Repeat([]api.Piece{{To: 64}, {From: 64}}, 512)); got != 64*512 {
		t.Errorf("Lines of many = %d", got)
	}
}

// P22.2: lists are the same if all fields of all pieces are, in the same order.
func TestSame(t *testing.T) {
	lists := [][]api.Piece{
		nil, {{}}, {{}, {}}, {{N: 1}}, {{From: 1}}, {{To: 1}}, {piece(1, 2, 3)}, {piece(2, 2, 3)}, {piece(1, 3, 3)}, {piece(1, 2, 4)}, {piece(3, 2, 1)},
		{piece(1, 2, 3), {}}, {{}, piece(1, 2, 3)}, {piece(1, 2, 3), piece(1, 2, 3)}, {piece(1, 2, 3), piece(4, 5, 6)}, {piece(4, 5, 6), piece(1, 2, 3)},
		{piece(1, 2, 3), piece(4, 5, 7)}, {piece(1, 2, 3), piece(4, 6, 6)}, {piece(1, 2, 3), piece(5, 5, 6)}, {piece(1, 2, 3), piece(4, 5, 6), {}},
		{piece(math.MinInt, math.MaxInt, -1)}, {piece(math.MaxInt, math.MaxInt, -1)}, {piece(-1, -2, -3)},
	}
	for i, a := range lists {
		for j, b := range lists {
			if got := Same(a, slices.Clone(b)); got != (i == j) {
				t.Errorf("Same of %v and %v = %v", a, b, got)
			}
		}
	}
	if !Same(nil, []api.Piece{}) || !Same([]api.Piece{}, nil) || !Same(nil, nil) || !Same([]api.Piece{}, []api.Piece{}) {
		t.Error("nil and empty lists differ")
	}
}

// P22.3: choices are in increasing order of their lines, none has as many as
// another.
func TestDifferentChoicesHaveDifferentLines(t *testing.T) {
	for _, l := range lists() {
		for _, s := range spots(l) {
			before := -1
			for _, c := range Choices(l, s) {
				if count(c) <= before || Lines(c) != count(c) {
					t.Errorf("%v: the lines of the choice %v for %v do not increase", l, c, s)
				}
				before = count(c)
			}
		}
	}
}

// left is the number of lines that are left of the open notes.
func left(l []api.Note, s Spot) int {
	lines := 0
	for _, n := range openNotes(l, s) {
		if n == s.Note {
			lines += max(len(l[n].Lines)-s.Line, 0)
		} else {
			lines += len(l[n].Lines)
		}
	}
	return lines
}

// P22.3: after a choice with all lines the open notes are at their end, and after
// one with fewer they are not.
func TestAfterAllLines(t *testing.T) {
	for _, l := range lists() {
		for _, s := range spots(l) {
			open := openNotes(l, s)
			if s.Note < 0 || s.Line < 0 || len(open) == 0 || left(l, s) == 0 {
				continue
			}
			end := open[len(open)-1] + 1
			for _, c := range Choices(l, s) {
				n, line := Next(l, s, c)
				if all := Lines(c) == left(l, s); all != (n == end && line == 0) {
					t.Errorf("%v: after %v for %v, the next line is %d of %d", l, c, s, line, n)
				}
			}
		}
	}
}

// P22.3: valid notes always have a choice with all their lines, and the choices
// after the first column go on where it ended.
func TestNotesAreSetToTheirEnd(t *testing.T) {
	r := rand.New(rand.NewSource(22))
	for range 300 {
		l := make([]api.Note, 1+r.Intn(5))
		lines := 0
		for i := range l {
			l[i] = valid(r)
			lines += len(l[i].Lines)
		}
		s := Spot{Begun: len(l), Fresh: true}
		var set []api.Piece
		for s.Note < len(l) {
			all := Choices(l, s)
			c := all[r.Intn(len(all))]
			if Lines(all[len(all)-1]) != lines-count(set) {
				t.Fatalf("%v: the last choice for %v is %v", l, s, all[len(all)-1])
			}
			set = append(set, c...)
			s.Note, s.Line = Next(l, s, c)
		}
		if count(set) != lines || High(l, set, 0) != tall(l, set, 0) || s.Line != 0 {
			t.Errorf("%v was set as %v", l, set)
		}
	}
}

// valid returns a valid note.
func valid(r *rand.Rand) api.Note {
	n := foot(1 + r.Intn(6))
	for range len(n.Lines) - 1 {
		n.Pens = append(n.Pens, []int{0, 5, 10000}[r.Intn(3)])
	}
	return n
}

// P22.1, P22.2: without notes, the only choice is the empty one, and pieces have no
// height.
func TestEmptyLists(t *testing.T) {
	pieces := []api.Piece{piece(0, 0, 2), piece(1, 0, 1)}
	for _, l := range [][]api.Note{nil, {}} {
		for _, s := range spots(l) {
			expectChoices(t, l, s, none())
			expectMay(t, l, s, []api.Piece{}, true)
			expectMay(t, l, s, pieces, false)
			expectMay(t, l, s, []api.Piece{{}}, false)
		}
		if n, line := Next(l, Spot{Note: 5, Line: 6}, pieces); n != 1 || line != 1 {
			t.Errorf("Next = %d, %d", n, line)
		}
		expectHigh(t, l, pieces, 4, 4)
		expectHigh(t, l, nil, 4, 0)
	}
	for _, l := range lists() {
		for _, s := range []Spot{{0, 0, 1, true}, {0, 1, 2, false}, {1, 0, 1, true}} {
			if May(l, s, nil) != May(l, s, []api.Piece{}) {
				t.Errorf("%v: nil and no pieces differ for %v", l, s)
			}
		}
	}
}

// all is everything that the calls return for these arguments.
func all(l []api.Note, s Spot, pieces []api.Piece) string {
	n, line := Next(l, s, pieces)
	return fmt.Sprint(Choices(l, s), Least(l, s), May(l, s, pieces), n, line, High(l, pieces, 3), Lines(pieces), Same(pieces, pieces[:1]))
}

// P22.1, P22.2, P4: notes and pieces read as before, also behind the ends of the
// lists that are passed.
func TestArgumentsAreUnchanged(t *testing.T) {
	notes := append(alphabet(), foot(4, 1, 2, 3), foot(2, 0))
	for i, n := range notes {
		notes[i] = api.Note{Lines: slices.Grow(n.Lines, 4), Pens: slices.Grow(n.Pens, 4)}
	}
	pieces := []api.Piece{piece(0, 0, 1), piece(1, 0, 2), piece(2, 0, 3), piece(3, 0, 3), piece(5, 6, 7)}
	var before []api.Note
	for _, n := range notes {
		before = append(before, api.Note{Lines: whole(n.Lines), Pens: whole(n.Pens)})
	}
	kept := slices.Clone(pieces)
	l := notes[:len(alphabet())]
	for _, s := range spots(l) {
		all(l, s, pieces[:4])
	}
	if !slices.Equal(pieces, kept) {
		t.Errorf("the pieces read as %v", pieces)
	}
	for i, n := range notes {
		if !slices.Equal(whole(n.Lines), before[i].Lines) || !slices.Equal(whole(n.Pens), before[i].Pens) {
			t.Errorf("note %d reads as %v, want %v", i, n, before[i])
		}
	}
}

// whole returns a copy of s up to its capacity.
func whole[T any](s []T) []T { return slices.Clone(s[:cap(s)]) }

// P22.1: what is done with a result, also behind its end, changes no other one.
func TestResultsAreTheirOwn(t *testing.T) {
	l := []api.Note{foot(3, 0, 0), foot(3, 0, 0)}
	s := Spot{Begun: 2}
	want := choices(l, s)
	for i := range want {
		got := Choices(l, s)
		c := got[i]
		for j := range c {
			c[j] = api.Piece{N: 9, From: 9, To: 9}
		}
		_ = append(c, api.Piece{N: 8}, api.Piece{N: 8})
		got[i] = want[i]
		if !equal(got, want) {
			t.Errorf("the others read as %v", got)
		}
	}
	s.Fresh = true
	first := Least(l, s)
	first[0] = api.Piece{N: 7}
	_ = append(first, api.Piece{N: 8})
	expectChoices(t, l, s, want[1:])
}

// P22.1, P22.2: calls at once, and again in another order, get the same results.
func TestCallsAtOnce(t *testing.T) {
	l := alphabet()[:4]
	pieces := []api.Piece{piece(0, 0, 1), piece(1, 1, 2)}
	want := map[Spot]string{}
	for _, s := range spots(l) {
		want[s] = all(l, s, pieces)
	}
	var wg sync.WaitGroup
	for range 8 {
		wg.Go(func() {
			for _, s := range slices.Backward(spots(l)) {
				if got := all(l, s, pieces); got != want[s] {
					t.Errorf("for %v: %s, want %s", s, got, want[s])
				}
			}
		})
	}
	wg.Wait()
}

// P5: a spot has exactly the fields that the chapter lists, and can be compared.
func TestSpot(t *testing.T) {
	want := []string{"Note int", "Line int", "Begun int", "Fresh bool"}
	var got []string
	for f := range reflect.TypeFor[Spot]().Fields() {
		got = append(got, f.Name+" "+f.Type.String())
	}
	if !slices.Equal(got, want) {
		t.Errorf("the fields are %v", got)
	}
	if (Spot{1, 2, 3, true}) != (Spot{Note: 1, Line: 2, Begun: 3, Fresh: true}) {
		t.Error("equal spots differ")
	}
}
