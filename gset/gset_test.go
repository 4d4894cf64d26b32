package gset

import (
	"math"
	"math/big"
	"slices"
	"testing"

	"tympan/api"
)

const (
	least = api.Sp(math.MinInt64)
	most  = api.Sp(math.MaxInt64)
	top   = api.Sp(1) << 50
)

// pointers lists the fields of a total.
func pointers(t *api.Total) []*api.Sp {
	return []*api.Sp{&t.Nat, &t.Str[0], &t.Str[1], &t.Str[2], &t.Str[3], &t.Shr}
}

// with returns t with one field set to x.
func with(t api.Total, field int, x api.Sp) api.Total {
	*pointers(&t)[field] = x
	return t
}

// mixed is a total whose fields are all different from each other.
func mixed() api.Total {
	return api.Total{Nat: 16, Str: [4]api.Sp{7, 2, 5, 11}, Shr: 3}
}

// fitting and beyond are lengths that a total may have, and that it may not.
func fitting() []api.Sp { return []api.Sp{0, 1, 2, 77, top - 1, top} }

func beyond() []api.Sp {
	return []api.Sp{least, least + 1, -top - 1, -top, -2, -1, top + 1, top + 2, 2 * top, most - 1, most}
}

// totals are admissible ones with every pattern of fields that are 0 and not 0,
// and with the greatest fields.
func totals() []api.Total {
	var l []api.Total
	for _, nat := range []api.Sp{0, 10, top} {
		for bits := range 1 << 5 {
			t := api.Total{Nat: nat, Str: [4]api.Sp{4, 3, 6, 1}, Shr: 2}
			for i, p := range pointers(&t)[1:] {
				*p *= api.Sp(bits >> i & 1)
			}
			l = append(l, t)
		}
	}
	for field := range 6 {
		l = append(l, with(api.Total{}, field, top), with(mixed(), field, top))
	}
	return l
}

// heights are those about 0, about the height of t and what it is when all its
// shrink is used, and about both ends.
func heights(t api.Total) []api.Sp {
	var l []api.Sp
	for _, high := range []api.Sp{0, t.Nat, t.Nat - t.Shr, t.Nat + t.Str[0], -top, top} {
		for d := api.Sp(-3); d <= 3; d++ {
			l = append(l, high+d)
		}
	}
	return append(l, least, most)
}

// settings are ways of setting and others, with numbers of every size.
func settings() []api.Setting {
	var l []api.Setting
	for _, how := range []int{math.MinInt, -1, 0, 1, 2, 3, 4, 5, math.MaxInt} {
		for _, ord := range []int{math.MinInt, -1, 0, 1, 3, 4, math.MaxInt} {
			for _, by := range []api.Sp{least, -1, 0, 1, 5, 7230585, top, most - 1, most} {
				for _, of := range []api.Sp{least, -3, 0, 1, 9, 1 << 22, top, most - top, most - 1, most} {
					l = append(l, api.Setting{How: how, Ord: ord, By: by, Of: of, Left: by})
				}
			}
		}
	}
	return l
}

// admissible is the chapter's definition.
func admissible(t api.Total, high api.Sp) bool {
	for _, p := range pointers(&t) {
		if *p < 0 || *p > 1<<50 {
			return false
		}
	}
	return high >= -1<<50 && high <= 1<<50
}

// setBy is the text of P9.1, rule by rule.
func setBy(t api.Total, high api.Sp, last bool) api.Setting {
	if !admissible(t, high) {
		return api.Setting{}
	}
	need := high - t.Nat
	order := 0
	for ord, str := range t.Str {
		if str != 0 {
			order = ord
		}
	}
	if need == 0 {
		return api.Setting{How: 0}
	}
	if need > 0 && order > 0 {
		return api.Setting{How: 1, Ord: order, By: need, Of: t.Str[order]}
	}
	if need > 0 && t.Str[0] != 0 && !last {
		return api.Setting{How: 1, Ord: 0, By: need, Of: t.Str[0]}
	}
	if need > 0 {
		return api.Setting{How: 0, Left: need}
	}
	if t.Shr >= -need {
		return api.Setting{How: 2, By: -need, Of: t.Shr}
	}
	return api.Setting{How: 3, By: t.Shr, Of: t.Shr, Left: need + t.Shr}
}

// exactBad is chapter 3 in exact numbers.
func exactBad(need api.Sp, has *big.Int) int {
	n, r := big.NewInt(int64(need)), new(big.Int)
	switch {
	case need < 1:
		return 0
	case has.Sign() < 1:
		return 10000
	case need <= 7230584:
		r.Mul(big.NewInt(297), n).Div(r, has)
	case has.Cmp(big.NewInt(1663497)) >= 0:
		r.Div(n, new(big.Int).Div(has, big.NewInt(297)))
	default:
		r.Set(n)
	}
	if r.Cmp(big.NewInt(1290)) > 0 {
		return 10000
	}
	q := r.Int64()
	return int((q*q*q + 1<<17) >> 18)
}

// badBy is the text of P9.2.
func badBy(s api.Setting, spare api.Sp, last bool) int {
	extra := big.NewInt(int64(min(max(spare, 0), 1<<50)))
	of := big.NewInt(int64(s.Of))
	switch s.How {
	case 0:
		if s.Left == 0 || last {
			return 0
		}
		return exactBad(s.Left, extra)
	case 1:
		if s.Ord > 0 {
			return 0
		}
		return exactBad(s.By, of.Add(of, extra))
	case 2:
		return exactBad(s.By, of)
	}
	return 10000
}

// sizesBy is the text of P9.3, in exact numbers.
func sizesBy(s api.Setting, glues []api.Total) []api.Sp {
	if s.How < 0 || s.How > 3 || s.By < 0 || s.By > 1<<50 {
		return nil
	}
	var sizes, parts []api.Sp
	for _, g := range glues {
		if !admissible(g, 0) {
			return nil
		}
		part := g.Shr
		if s.How == 1 {
			part = 0
			if s.Ord >= 0 && s.Ord <= 3 {
				part = g.Str[s.Ord]
			}
		}
		sizes, parts = append(sizes, g.Nat), append(parts, part)
	}
	for i, by := range sharesBy(s.By, parts) {
		switch s.How {
		case 1:
			sizes[i] += by
		case 2:
			sizes[i] -= by
		}
	}
	for i, g := range glues {
		if s.How == 3 {
			sizes[i] -= g.Shr
		}
	}
	return sizes
}

// sharesBy is chapter 8 in exact numbers, for a whole and parts that are not
// negative.
func sharesBy(whole api.Sp, parts []api.Sp) []api.Sp {
	sum := new(big.Int)
	for _, p := range parts {
		sum.Add(sum, big.NewInt(int64(p)))
	}
	if sum.Sign() == 0 || !sum.IsInt64() {
		return nil
	}
	var shares []api.Sp
	first, before := new(big.Int), int64(0)
	for _, p := range parts {
		first.Add(first, big.NewInt(int64(p)))
		up := new(big.Int).Mul(big.NewInt(int64(whole)), first)
		upTo := up.Div(up, sum).Int64()
		shares = append(shares, api.Sp(upTo-before))
		before = upTo
	}
	return shares
}

func checkOf(t *testing.T, a api.Total, high api.Sp) {
	t.Helper()
	if got, want := Right(a, high), admissible(a, high); got != want {
		t.Errorf("Right(%v, %d): %v", a, high, got)
	}
	for _, last := range []bool{false, true} {
		if got, want := Of(a, high, last), setBy(a, high, last); got != want {
			t.Errorf("Of(%v, %d, %v): %v, not %v", a, high, last, got, want)
		}
	}
}

func checkSizes(t *testing.T, s api.Setting, glues []api.Total) {
	t.Helper()
	kept := slices.Clone(glues)
	if got, want := Sizes(s, glues), sizesBy(s, glues); !slices.Equal(got, want) {
		t.Errorf("Sizes(%v, %v): %v, not %v", s, glues, got, want)
	}
	if !slices.Equal(glues, kept) {
		t.Errorf("Sizes(%v, %v) changed the totals: %v", s, kept, glues)
	}
}

// P9.1, P9.2: the chapter's examples.
func TestExamples(t *testing.T) {
	if s := Of(api.Total{Nat: 10}, 12, false); s != (api.Setting{How: api.SetNat, Left: 2}) {
		t.Errorf("without stretch: %v", s)
	}
	s := Of(api.Total{Nat: 10, Str: [4]api.Sp{4, 0, 0, 0}}, 12, false)
	if s != (api.Setting{How: api.SetStr, By: 2, Of: 4}) || Bad(s, 0, false) != 12 {
		t.Errorf("with a stretch of 4: %v, %d", s, Bad(s, 0, false))
	}
}

// P9.1: every field, and the height, at both ends and just beyond each.
func TestRight(t *testing.T) {
	for _, base := range []api.Total{{}, mixed(), {Nat: top, Str: [4]api.Sp{top, top, top, top}, Shr: top}} {
		for field := range 6 {
			for _, x := range fitting() {
				if !Right(with(base, field, x), 0) {
					t.Errorf("Right(%v, 0) is false", with(base, field, x))
				}
			}
			for _, x := range beyond() {
				if Right(with(base, field, x), 0) {
					t.Errorf("Right(%v, 0) is true", with(base, field, x))
				}
			}
		}
		for _, high := range []api.Sp{-top, -top + 1, -1, 0, 1, top - 1, top} {
			if !Right(base, high) {
				t.Errorf("Right(%v, %d) is false", base, high)
			}
		}
		for _, high := range []api.Sp{least, -top - 2, -top - 1, top + 1, top + 2, most} {
			if Right(base, high) {
				t.Errorf("Right(%v, %d) is true", base, high)
			}
		}
	}
}

// P9.1: a zero setting for all that is not admissible, where a setting by the
// rules would be another one.
func TestOfRefused(t *testing.T) {
	for _, last := range []bool{false, true} {
		for _, high := range []api.Sp{-top, -5, 0, 2, 99, top} {
			for field := range 6 {
				for _, x := range beyond() {
					if s := Of(with(mixed(), field, x), high, last); s != (api.Setting{}) {
						t.Errorf("Of(%v, %d, %v): %v", with(mixed(), field, x), high, last, s)
					}
				}
			}
		}
		for _, high := range []api.Sp{least, -top - 1, top + 1, most} {
			if s := Of(mixed(), high, last); s != (api.Setting{}) {
				t.Errorf("Of(%v, %d, %v): %v", mixed(), high, last, s)
			}
		}
	}
}

// P9.1: each rule in its turn.
func TestOfRules(t *testing.T) {
	str := func(a, b, c, d api.Sp) [4]api.Sp { return [4]api.Sp{a, b, c, d} }
	for _, x := range []struct {
		t    api.Total
		high api.Sp
		last bool
		want api.Setting
	}{
		{mixed(), 16, false, api.Setting{}},
		{mixed(), 16, true, api.Setting{}},
		{api.Total{}, 0, false, api.Setting{}},
		{api.Total{Nat: top}, top, true, api.Setting{}},
		{api.Total{Nat: 9, Str: str(0, 5, 0, 0)}, 12, false, api.Setting{How: 1, Ord: 1, By: 3, Of: 5}},
		{api.Total{Nat: 9, Str: str(0, 0, 5, 0)}, 12, false, api.Setting{How: 1, Ord: 2, By: 3, Of: 5}},
		{api.Total{Nat: 9, Str: str(0, 0, 0, 5)}, 12, true, api.Setting{How: 1, Ord: 3, By: 3, Of: 5}},
		{api.Total{Nat: 9, Str: str(8, 6, 0, 0)}, 12, true, api.Setting{How: 1, Ord: 1, By: 3, Of: 6}},
		{api.Total{Nat: 9, Str: str(8, 6, 7, 0)}, 12, false, api.Setting{How: 1, Ord: 2, By: 3, Of: 7}},
		{mixed(), 17, false, api.Setting{How: 1, Ord: 3, By: 1, Of: 11}},
		{mixed(), 17, true, api.Setting{How: 1, Ord: 3, By: 1, Of: 11}},
		{api.Total{Nat: 9, Str: str(4, 0, 0, 0)}, 12, false, api.Setting{How: 1, By: 3, Of: 4}},
		{api.Total{Nat: 9, Str: str(1, 0, 0, 0)}, 12, false, api.Setting{How: 1, By: 3, Of: 1}},
		{api.Total{Nat: 9, Str: str(4, 0, 0, 0)}, 12, true, api.Setting{How: 0, Left: 3}},
		{api.Total{Nat: 9, Shr: 4}, 12, false, api.Setting{How: 0, Left: 3}},
		{api.Total{Nat: 9, Shr: 4}, 12, true, api.Setting{How: 0, Left: 3}},
		{api.Total{}, top, false, api.Setting{How: 0, Left: top}},
		{api.Total{Str: str(0, 0, top, 0)}, top, false, api.Setting{How: 1, Ord: 2, By: top, Of: top}},
		{api.Total{Nat: 9, Shr: 3}, 6, false, api.Setting{How: 2, By: 3, Of: 3}},
		{api.Total{Nat: 9, Shr: 4}, 6, true, api.Setting{How: 2, By: 3, Of: 4}},
		{mixed(), 13, false, api.Setting{How: 2, By: 3, Of: 3}},
		{mixed(), 12, true, api.Setting{How: 3, By: 3, Of: 3, Left: -1}},
		{api.Total{Nat: 9, Shr: 2}, 6, false, api.Setting{How: 3, By: 2, Of: 2, Left: -1}},
		{api.Total{Nat: 9}, 6, false, api.Setting{How: 3, Left: -3}},
		{api.Total{Nat: 9, Str: str(4, 4, 4, 4)}, 8, true, api.Setting{How: 3, Left: -1}},
		{api.Total{Nat: 9, Shr: top}, -5, false, api.Setting{How: 2, By: 14, Of: top}},
		{api.Total{Nat: top, Shr: top}, 0, false, api.Setting{How: 2, By: top, Of: top}},
		{api.Total{Nat: top, Shr: top}, -1, true, api.Setting{How: 3, By: top, Of: top, Left: -1}},
		{api.Total{Nat: top}, -top, false, api.Setting{How: 3, Left: -2 * top}},
		{api.Total{Nat: top, Shr: top}, -top, false, api.Setting{How: 3, By: top, Of: top, Left: -top}},
	} {
		if got := Of(x.t, x.high, x.last); got != x.want {
			t.Errorf("Of(%v, %d, %v): %v, not %v", x.t, x.high, x.last, got, x.want)
		}
	}
}

// P9.1: all patterns of fields, with heights about those where another rule
// applies.
func TestOfAll(t *testing.T) {
	for _, a := range totals() {
		for _, high := range heights(a) {
			checkOf(t, a, high)
		}
	}
}

// P9.2: each way of setting, with numbers that are written out.
func TestBadRules(t *testing.T) {
	for _, x := range []struct {
		s     api.Setting
		spare api.Sp
		last  bool
		want  int
	}{
		{api.Setting{}, 0, false, 0},
		{api.Setting{By: 9, Of: 1}, 0, false, 0},
		{api.Setting{Left: 2}, 0, false, 10000},
		{api.Setting{Left: 2}, -1, false, 10000},
		{api.Setting{Left: 2}, least, false, 10000},
		{api.Setting{Left: 2}, 2, false, 100},
		{api.Setting{Left: 2}, 4, false, 12},
		{api.Setting{Left: 2}, 0, true, 0},
		{api.Setting{Left: 2}, 2, true, 0},
		{api.Setting{Left: -2}, 0, false, 0},
		{api.Setting{Left: 5, By: 1, Of: 9, Ord: 2}, 5, false, 100},
		{api.Setting{How: 1, By: 2, Of: 4}, 0, false, 12},
		{api.Setting{How: 1, By: 2, Of: 4}, 0, true, 12},
		{api.Setting{How: 1, By: 4, Of: 2}, 2, false, 100},
		{api.Setting{How: 1, By: 4, Of: 2}, 2, true, 100},
		{api.Setting{How: 1, By: 4, Of: 4}, -3, false, 100},
		{api.Setting{How: 1, By: 4}, 0, false, 10000},
		{api.Setting{How: 1, By: 4, Left: 7}, 4, false, 100},
		{api.Setting{How: 1, By: 4, Of: -4}, 8, false, 100},
		{api.Setting{How: 1, Ord: 1, By: 4}, 0, false, 0},
		{api.Setting{How: 1, Ord: 3, By: 4, Of: 1}, 0, false, 0},
		{api.Setting{How: 1, Ord: 4, By: 4}, 0, false, 0},
		{api.Setting{How: 1, Ord: math.MaxInt, By: 4}, 0, true, 0},
		{api.Setting{How: 1, Ord: -1, By: 4, Of: 4}, 0, false, 100},
		{api.Setting{How: 2, By: 1, Of: 2}, 0, false, 12},
		{api.Setting{How: 2, By: 2, Of: 2}, 0, true, 100},
		{api.Setting{How: 2, By: 2, Of: 2}, 2, false, 100},
		{api.Setting{How: 2, By: 2}, 2, false, 10000},
		{api.Setting{How: 2, Ord: 2, By: 2, Of: 4, Left: 1}, top, true, 12},
		{api.Setting{How: 3, By: 2, Of: 2, Left: -1}, 0, false, 10000},
		{api.Setting{How: 3}, top, true, 10000},
		{api.Setting{How: 4}, 0, true, 10000},
		{api.Setting{How: -1}, 0, false, 10000},
		{api.Setting{How: math.MaxInt, Ord: 1}, 0, false, 10000},
		{api.Setting{How: math.MinInt, Ord: 1}, 0, true, 10000},
	} {
		if got := Bad(x.s, x.spare, x.last); got != x.want {
			t.Errorf("Bad(%v, %d, %v): %d, not %d", x.s, x.spare, x.last, got, x.want)
		}
	}
}

// P9.2: a spare below 0 counts as 0, and one above 2^50 as 2^50.
func TestSpare(t *testing.T) {
	left := api.Setting{Left: top}
	str := api.Setting{How: 1, By: top}
	for _, x := range []struct {
		spare api.Sp
		want  int
	}{
		{least, 10000}, {-1, 10000}, {0, 10000}, {top / 2, 800}, {top, 100},
		{top + 1, 100}, {2 * top, 100}, {most, 100},
	} {
		got := [2]int{Bad(left, x.spare, false), Bad(str, x.spare, false)}
		// What is rounded in chapter 3 is small beside these numbers.
		for _, bad := range got {
			if bad < x.want-1 || bad > x.want+1 {
				t.Errorf("Bad with a spare of %d: %v, not about %d", x.spare, got, x.want)
			}
		}
	}
	for _, s := range settings() {
		for _, last := range []bool{false, true} {
			if Bad(s, -9, last) != Bad(s, 0, last) || Bad(s, 3*top, last) != Bad(s, top, last) {
				t.Errorf("Bad(%v, .., %v) beyond the range of spare", s, last)
			}
		}
	}
}

// P9.2: settings of all kinds, also where Of + spare is no length any more.
func TestBadAll(t *testing.T) {
	for _, s := range settings() {
		for _, spare := range []api.Sp{least, -1, 0, 1, 2, 1 << 22, top - 1, top, top + 1, most} {
			for _, last := range []bool{false, true} {
				if got, want := Bad(s, spare, last), badBy(s, spare, last); got != want {
					t.Errorf("Bad(%v, %d, %v): %d, not %d", s, spare, last, got, want)
				}
			}
		}
	}
}

// pairs are two totals with different fields, and one with none between them.
func pairs() []api.Total {
	return []api.Total{
		{Nat: 5, Str: [4]api.Sp{1, 0, 3, 0}, Shr: 2},
		{Nat: 9},
		{Nat: 6, Str: [4]api.Sp{2, 0, 1, 7}, Shr: 1},
	}
}

// P9.3: each way of setting, with sizes that are written out.
func TestSizesRules(t *testing.T) {
	for _, x := range []struct {
		s    api.Setting
		want []api.Sp
	}{
		{api.Setting{}, []api.Sp{5, 9, 6}},
		{api.Setting{By: 3, Of: 4, Left: 9, Ord: 7}, []api.Sp{5, 9, 6}},
		{api.Setting{How: 1, By: 7, Of: 3}, []api.Sp{7, 9, 11}},
		{api.Setting{How: 1, By: 0, Of: 3}, []api.Sp{5, 9, 6}},
		{api.Setting{How: 1, By: 7}, []api.Sp{7, 9, 11}},
		{api.Setting{How: 1, Ord: 1, By: 7, Of: 3}, []api.Sp{5, 9, 6}},
		{api.Setting{How: 1, Ord: 2, By: 7, Of: 4}, []api.Sp{10, 9, 8}},
		{api.Setting{How: 1, Ord: 3, By: 7, Of: 7}, []api.Sp{5, 9, 13}},
		{api.Setting{How: 1, Ord: 4, By: 7, Of: 3}, []api.Sp{5, 9, 6}},
		{api.Setting{How: 1, Ord: -1, By: 7, Of: 3}, []api.Sp{5, 9, 6}},
		{api.Setting{How: 1, Ord: math.MaxInt, By: 7, Of: 3}, []api.Sp{5, 9, 6}},
		{api.Setting{How: 1, Ord: math.MinInt, By: 7, Of: 3}, []api.Sp{5, 9, 6}},
		{api.Setting{How: 2, By: 2, Of: 3}, []api.Sp{4, 9, 5}},
		{api.Setting{How: 2, By: 3, Of: 3}, []api.Sp{3, 9, 5}},
		{api.Setting{How: 2, By: 0, Of: 3}, []api.Sp{5, 9, 6}},
		{api.Setting{How: 2, By: 30, Of: 3}, []api.Sp{-15, 9, -4}},
		{api.Setting{How: 3, By: 3, Of: 3, Left: -2}, []api.Sp{3, 9, 5}},
		{api.Setting{How: 3}, []api.Sp{3, 9, 5}},
		{api.Setting{How: 4, By: 3, Of: 3}, nil},
		{api.Setting{How: -1, By: 3, Of: 3}, nil},
		{api.Setting{How: math.MinInt}, nil},
		{api.Setting{How: math.MaxInt}, nil},
	} {
		if got := Sizes(x.s, pairs()); !slices.Equal(got, x.want) {
			t.Errorf("Sizes(%v): %v, not %v", x.s, got, x.want)
		}
	}
	over := []api.Total{{Shr: top}, {Nat: top}, {Nat: top, Shr: top}}
	if l := Sizes(api.Setting{How: 3}, over); !slices.Equal(l, []api.Sp{-top, top, 0}) {
		t.Errorf("Sizes of what is too full: %v", l)
	}
}

// P9.3: an order that does not exist matters only where it says by which
// stretch By is shared.
func TestSizesOrder(t *testing.T) {
	for _, ord := range []int{math.MinInt, -1, 1, 3, 4, math.MaxInt} {
		for _, x := range []struct {
			how  int
			want []api.Sp
		}{
			{api.SetNat, []api.Sp{5, 9, 6}}, {api.SetShr, []api.Sp{4, 9, 5}}, {api.SetOver, []api.Sp{3, 9, 5}},
		} {
			s := api.Setting{How: x.how, Ord: ord, By: 2, Of: 3}
			if got := Sizes(s, pairs()); !slices.Equal(got, x.want) {
				t.Errorf("Sizes(%v): %v, not %v", s, got, x.want)
			}
		}
	}
}

// P9.3: no totals, one, several, and many, for settings of all kinds.
func TestSizesAll(t *testing.T) {
	lists := [][]api.Total{
		nil, {}, {{}}, {mixed()}, {{Nat: 3}}, {{Nat: 3}, {Nat: 4}}, pairs(), totals(),
		{{Nat: top, Str: [4]api.Sp{top, top, top, top}, Shr: top}, mixed()},
	}
	for _, s := range settings() {
		for _, glues := range lists {
			checkSizes(t, s, glues)
		}
	}
	for by := range api.Sp(40) {
		for how := range 4 {
			for ord := range 4 {
				checkSizes(t, api.Setting{How: how, Ord: ord, By: by}, pairs())
				checkSizes(t, api.Setting{How: how, Ord: ord, By: by}, totals()[:32])
			}
		}
	}
}

// P9.3: By cannot be shared by parts whose sum is no length, though each of
// them is admissible; just below that it can.
func TestSizesTooMany(t *testing.T) {
	full := api.Total{Nat: 1, Str: [4]api.Sp{top, top, top, top}, Shr: top}
	many := slices.Repeat([]api.Total{full}, 1<<13)
	for ord := range 4 {
		for _, how := range []int{api.SetStr, api.SetShr} {
			s := api.Setting{How: how, Ord: ord, By: 1 << 13}
			want := slices.Repeat([]api.Sp{1}, 1<<13)
			if got := Sizes(s, many); !slices.Equal(got, want) {
				t.Errorf("Sizes(%v) by too much differs from Nat", s)
			}
			checkSizes(t, s, many[1:])
			if slices.Equal(Sizes(s, many[1:]), want[1:]) {
				t.Errorf("Sizes(%v) by as much as possible is Nat", s)
			}
		}
	}
	want := slices.Repeat([]api.Sp{1 - top}, 1<<13)
	if got := Sizes(api.Setting{How: api.SetOver, By: 5}, many); !slices.Equal(got, want) {
		t.Error("Sizes of many totals that are too full")
	}
}

// P9.3: an empty list if a field of any total, or By, is out of range, whatever
// the way of setting.
func TestSizesRefused(t *testing.T) {
	for how := range 4 {
		s := api.Setting{How: how, By: 2, Of: 3}
		for field := range 6 {
			for at := range pairs() {
				for _, x := range fitting() {
					glues := pairs()
					glues[at] = with(glues[at], field, x)
					if len(Sizes(s, glues)) != 3 {
						t.Errorf("Sizes(%v, %v) is not a list of 3", s, glues)
					}
					checkSizes(t, s, glues)
				}
				for _, x := range beyond() {
					glues := pairs()
					glues[at] = with(glues[at], field, x)
					if l := Sizes(s, glues); len(l) != 0 {
						t.Errorf("Sizes(%v, %v): %v", s, glues, l)
					}
				}
			}
		}
		for _, by := range fitting() {
			s.By = by
			if len(Sizes(s, pairs())) != 3 {
				t.Errorf("Sizes(%v) is not a list of 3", s)
			}
		}
		for _, by := range beyond() {
			s.By = by
			if l := Sizes(s, pairs()); len(l) != 0 {
				t.Errorf("Sizes(%v): %v", s, l)
			}
		}
	}
}

// P9.3: a list that was returned is not that of another call.
func TestSizesNew(t *testing.T) {
	glues := pairs()
	for how := range 4 {
		s := api.Setting{How: how, By: 2}
		one, two := Sizes(s, glues), Sizes(s, glues)
		for i := range one {
			one[i] = -99
		}
		if !slices.Equal(two, sizesBy(s, pairs())) || !slices.Equal(glues, pairs()) {
			t.Errorf("Sizes(%v) shares memory: %v %v", s, two, glues)
		}
	}
}

// P9.4: boxes and glues that are set by stretch or by shrink have exactly the
// required height.
func TestExactHeight(t *testing.T) {
	glues := []api.Total{
		{Nat: 5, Str: [4]api.Sp{1, 0, 3, 0}, Shr: 2}, {Nat: 9},
		{Nat: 6, Str: [4]api.Sp{2, 0, 1, 0}, Shr: 1}, {Nat: 0, Str: [4]api.Sp{7, 0, 0, 0}, Shr: 11},
		{Nat: 3, Str: [4]api.Sp{0, 5, 0, 0}}, {Nat: 1, Str: [4]api.Sp{1 << 40, 1, 0, 2}, Shr: 1 << 30},
	}
	const boxes = api.Sp(1<<30 + 17)
	seen := map[int]int{}
	for bits := range 1 << len(glues) {
		var chosen []api.Total
		sum := api.Total{Nat: boxes}
		for i, g := range glues {
			if bits>>i&1 == 1 {
				chosen = append(chosen, g)
				for field, p := range pointers(&sum) {
					*p += *pointers(&g)[field]
				}
			}
		}
		for _, high := range exactHeights(sum) {
			for _, last := range []bool{false, true} {
				s := Of(sum, high, last)
				if s.How != api.SetStr && s.How != api.SetShr {
					continue
				}
				seen[s.How]++
				set := boxes
				for _, size := range Sizes(s, chosen) {
					set += size
				}
				if set != high {
					t.Errorf("%v, set by %v: %d high, not %d", chosen, s, set, high)
				}
			}
		}
	}
	if seen[api.SetStr] == 0 || seen[api.SetShr] == 0 {
		t.Errorf("nothing was set: %v", seen)
	}
}

func exactHeights(t api.Total) []api.Sp {
	l := []api.Sp{-top, -1, 0, 1, t.Nat - t.Shr, t.Nat - t.Shr + 1, t.Nat + 1000003, 1 << 45, top - 1, top}
	for d := api.Sp(-16); d <= 40; d++ {
		l = append(l, t.Nat+d)
	}
	return l
}
