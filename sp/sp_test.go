package sp

import (
	"math"
	"math/big"
	"slices"
	"testing"

	"tympan/api"
)

const (
	least = api.Sp(math.MinInt64)
	most  = api.Sp(math.MaxInt64)
)

// samples are numbers around which overflow, signs and remainders change: both
// ends of the range and their halves, the square root of the range, and zero.
func samples() []api.Sp {
	var l []api.Sp
	for _, a := range []api.Sp{0, 1 << 30, 1 << 31, 1 << 32, 3037000499, most / 3, most / 2, most} {
		for d := range api.Sp(4) {
			l = append(l, a-d, -a+d)
		}
	}
	for d := range api.Sp(4) {
		l = append(l, least+d, least/2+d, least/2-d, least/3+d)
	}
	slices.Sort(l)
	return slices.Compact(l)
}

func exact(a api.Sp) *big.Int { return big.NewInt(int64(a)) }

// inRange is what a call must return whose exact result is x.
func inRange(x *big.Int) (api.Sp, bool) {
	if !x.IsInt64() {
		return 0, false
	}
	return api.Sp(x.Int64()), true
}

// floorMultiple and ceilMultiple compute with exact numbers, for step >= 1;
// Div rounds down for a positive divisor.
func floorMultiple(a, step *big.Int) *big.Int {
	q := new(big.Int).Div(a, step)
	return q.Mul(q, step)
}

func ceilMultiple(a, step *big.Int) *big.Int {
	n := floorMultiple(new(big.Int).Neg(a), step)
	return n.Neg(n)
}

// P1.1: the four operations agree with exact arithmetic, up to both ends of the range.
func TestOperations(t *testing.T) {
	for _, a := range samples() {
		for _, b := range samples() {
			for _, x := range []struct {
				name string
				call func(a, b api.Sp) (api.Sp, bool)
				want *big.Int
			}{
				{"Add", Add, new(big.Int).Add(exact(a), exact(b))},
				{"Sub", Sub, new(big.Int).Sub(exact(a), exact(b))},
				{"Mul", func(a, b api.Sp) (api.Sp, bool) { return Mul(a, int64(b)) }, new(big.Int).Mul(exact(a), exact(b))},
				{"Neg", func(a, _ api.Sp) (api.Sp, bool) { return Neg(a) }, new(big.Int).Neg(exact(a))},
			} {
				want, wantOK := inRange(x.want)
				if got, ok := x.call(a, b); got != want || ok != wantOK {
					t.Fatalf("%s(%d, %d) is %d %v, not %d %v", x.name, a, b, got, ok, want, wantOK)
				}
			}
		}
	}
}

// P1.1: the ends of the range, written out.
func TestOperationsAtTheEnds(t *testing.T) {
	type answer struct {
		a  api.Sp
		ok bool
	}
	of := func(a api.Sp, ok bool) answer { return answer{a, ok} }
	for _, x := range []struct {
		name      string
		got, want answer
	}{
		{"most + 0", of(Add(most, 0)), answer{most, true}},
		{"most + 1", of(Add(most, 1)), answer{}},
		{"least + -1", of(Add(least, -1)), answer{}},
		{"least + most", of(Add(least, most)), answer{-1, true}},
		{"least + least", of(Add(least, least)), answer{}},
		{"least - 1", of(Sub(least, 1)), answer{}},
		{"least - least", of(Sub(least, least)), answer{0, true}},
		{"-1 - least", of(Sub(-1, least)), answer{most, true}},
		{"0 - least", of(Sub(0, least)), answer{}},
		{"most - -1", of(Sub(most, -1)), answer{}},
		{"-most", of(Neg(most)), answer{-most, true}},
		{"-least", of(Neg(least)), answer{}},
		{"least * 1", of(Mul(least, 1)), answer{least, true}},
		{"least * -1", of(Mul(least, -1)), answer{}},
		{"-1 * least", of(Mul(-1, math.MinInt64)), answer{}},
		{"1 * least", of(Mul(1, math.MinInt64)), answer{least, true}},
		{"0 * least", of(Mul(0, math.MinInt64)), answer{0, true}},
		{"least * 0", of(Mul(least, 0)), answer{0, true}},
		{"most * -1", of(Mul(most, -1)), answer{-most, true}},
		{"most * most", of(Mul(most, math.MaxInt64)), answer{}},
		{"2^32 * 2^31", of(Mul(1<<32, 1<<31)), answer{}},
		{"-2^32 * 2^31", of(Mul(-1<<32, 1<<31)), answer{least, true}},
		{"2^32 * 2^32", of(Mul(1<<32, 1<<32)), answer{}},
	} {
		if x.got != x.want {
			t.Errorf("%s is %v, not %v", x.name, x.got, x.want)
		}
	}
}

// P1.1: Sum adds from left to right, and a sum on the way counts.
func TestSum(t *testing.T) {
	for _, x := range []struct {
		l    []api.Sp
		want api.Sp
		ok   bool
	}{
		{nil, 0, true},
		{[]api.Sp{}, 0, true},
		{[]api.Sp{5}, 5, true},
		{[]api.Sp{1, 2, 3}, 6, true},
		{[]api.Sp{7, -10, 1}, -2, true},
		{[]api.Sp{most}, most, true},
		{[]api.Sp{least}, least, true},
		{[]api.Sp{most, least, 1}, 0, true},
		{[]api.Sp{most, -5, 1}, most - 4, true},
		{[]api.Sp{most, 1, -5}, 0, false},
		{[]api.Sp{least, -1, 5}, 0, false},
		{[]api.Sp{least, 5, -1}, least + 4, true},
		{[]api.Sp{1, 2, most}, 0, false},
		{[]api.Sp{most, most, least, least, 2}, 0, false},
	} {
		if got, ok := Sum(x.l...); got != x.want || ok != x.ok {
			t.Errorf("Sum(%v) is %d %v, not %d %v", x.l, got, ok, x.want, x.ok)
		}
	}
}

// P4: Sum leaves its list as it is.
func TestSumLeavesItsList(t *testing.T) {
	l := []api.Sp{3, most, 1, -5}
	Sum(l...)
	if !slices.Equal(l, []api.Sp{3, most, 1, -5}) {
		t.Errorf("Sum has changed its list: %v", l)
	}
}

// P1.1: Up and Down agree with exact arithmetic, up to both ends of the range.
func TestUpDown(t *testing.T) {
	for _, a := range samples() {
		for _, step := range samples() {
			var up, down api.Sp
			var upOK, downOK bool
			if step >= 1 {
				up, upOK = inRange(ceilMultiple(exact(a), exact(step)))
				down, downOK = inRange(floorMultiple(exact(a), exact(step)))
			}
			if got, ok := Up(a, step); got != up || ok != upOK {
				t.Fatalf("Up(%d, %d) is %d %v, not %d %v", a, step, got, ok, up, upOK)
			}
			if got, ok := Down(a, step); got != down || ok != downOK {
				t.Fatalf("Down(%d, %d) is %d %v, not %d %v", a, step, got, ok, down, downOK)
			}
		}
	}
}

// P1.1: the chapter's examples of Up and Down, the ends of the range, and steps below 1.
func TestUpDownWrittenOut(t *testing.T) {
	for _, x := range []struct {
		a, step, up, down api.Sp
		upOK, downOK      bool
	}{
		{7, 5, 10, 5, true, true},
		{-7, 5, -5, -10, true, true},
		{10, 5, 10, 10, true, true},
		{-10, 5, -10, -10, true, true},
		{0, 5, 0, 0, true, true},
		{1, 5, 5, 0, true, true},
		{-1, 5, 0, -5, true, true},
		{6, 1, 6, 6, true, true},
		{most, 1, most, most, true, true},
		{least, 1, least, least, true, true},
		{most, 2, 0, most - 1, false, true},
		{least, 2, least, least, true, true},
		{least, 3, least + 2, 0, true, false},
		{most, most, most, most, true, true},
		{least, most, -most, 0, true, false},
		{most - 1, most, most, 0, true, true},
		{1, most, most, 0, true, true},
		{-1, most, 0, -most, true, true},
		{7, 0, 0, 0, false, false},
		{0, 0, 0, 0, false, false},
		{7, -5, 0, 0, false, false},
		{0, -1, 0, 0, false, false},
		{10, least, 0, 0, false, false},
		{least, -1, 0, 0, false, false},
	} {
		up, upOK := Up(x.a, x.step)
		down, downOK := Down(x.a, x.step)
		if up != x.up || upOK != x.upOK || down != x.down || downOK != x.downOK {
			t.Errorf("%v: Up is %d %v, Down is %d %v", x, up, upOK, down, downOK)
		}
	}
}

func wantValue(t *testing.T, m *Meter, want api.Sp, wantOK bool) {
	t.Helper()
	if got, ok := m.Value(); got != want || ok != wantOK {
		t.Errorf("the value is %d %v, not %d %v", got, ok, want, wantOK)
	}
}

// P1.2: a meter begins at 0, and moves to both ends of the range.
func TestMeter(t *testing.T) {
	m := New()
	wantValue(t, m, 0, true)
	for _, x := range []struct {
		change func(api.Sp) bool
		a      api.Sp
		want   api.Sp
	}{
		{m.Add, 5, 5},
		{m.Sub, 7, -2},
		{m.Sub, -2, 0},
		{m.Add, most, most},
		{m.Add, 0, most},
		{m.Sub, most, 0},
		{m.Add, least, least},
		{m.Sub, 0, least},
		{m.Sub, least, 0},
		{m.Sub, most, -most},
		{m.Sub, 1, least},
	} {
		if !x.change(x.a) {
			t.Errorf("a change by %d was refused", x.a)
		}
		wantValue(t, m, x.want, true)
	}
}

// P1.2: each call of New returns a meter of its own.
func TestMetersAreSeparate(t *testing.T) {
	a, b := New(), New()
	a.Add(3)
	wantValue(t, a, 3, true)
	wantValue(t, b, 0, true)
	a.Add(most)
	wantValue(t, a, 0, false)
	wantValue(t, b, 0, true)
}

// P1.2: a meter is spoiled by either call, at either end, and stays so.
func TestSpoiledMeter(t *testing.T) {
	for _, x := range []struct {
		name  string
		begin api.Sp
		spoil func(m *Meter) bool
	}{
		{"Add beyond the end", most, func(m *Meter) bool { return m.Add(1) }},
		{"Add below the beginning", least, func(m *Meter) bool { return m.Add(-1) }},
		{"Sub beyond the end", most, func(m *Meter) bool { return m.Sub(-1) }},
		{"Sub below the beginning", least, func(m *Meter) bool { return m.Sub(1) }},
		{"Sub of the least number", 0, func(m *Meter) bool { return m.Sub(least) }},
	} {
		m := New()
		m.Add(x.begin)
		if x.spoil(m) {
			t.Errorf("%s: true", x.name)
		}
		wantValue(t, m, 0, false)
		for _, a := range []api.Sp{0, 1, -1, most, least} {
			if m.Add(a) || m.Sub(a) {
				t.Errorf("%s: a later change by %d: true", x.name, a)
			}
			wantValue(t, m, 0, false)
		}
	}
}

// P1.2: a nil meter refuses everything.
func TestNilMeter(t *testing.T) {
	var m *Meter
	for _, a := range []api.Sp{0, 1, most, least} {
		if m.Add(a) || m.Sub(a) {
			t.Errorf("a change of a nil meter by %d: true", a)
		}
		wantValue(t, m, 0, false)
	}
}

// P1: a meter that no call created is one with the value 0.
func TestPlainMeter(t *testing.T) {
	var m Meter
	wantValue(t, &m, 0, true)
	if !m.Add(4) || !m.Sub(1) {
		t.Error("a change of a plain meter was refused")
	}
	wantValue(t, &m, 3, true)
}

// P1.3: Sub undoes Add, for numbers and for meters.
func TestSubUndoesAdd(t *testing.T) {
	undone := 0
	for _, a := range samples() {
		for _, b := range samples() {
			sum, ok := Add(a, b)
			if !ok {
				continue
			}
			undone++
			if back, ok := Sub(sum, b); back != a || !ok {
				t.Fatalf("%d + %d - %d is %d %v", a, b, b, back, ok)
			}
			m := New()
			if !m.Add(a) || !m.Add(b) || !m.Sub(b) {
				t.Fatalf("a meter refuses %d + %d - %d", a, b, b)
			}
			wantValue(t, m, a, true)
		}
	}
	if undone == 0 {
		t.Error("there was nothing to undo")
	}
}

// P1.3: the value of a meter is that of Sum, also when both fail.
func TestMeterIsSum(t *testing.T) {
	failed, held := 0, 0
	l := samples()
	for i := range l {
		for j := range l {
			three := []api.Sp{l[i], l[j], l[(i+j)%len(l)]}
			m := New()
			for _, a := range three {
				m.Add(a)
			}
			sum, ok := Sum(three...)
			wantValue(t, m, sum, ok)
			exactSum, fits := inRange(new(big.Int).Add(new(big.Int).Add(exact(three[0]), exact(three[1])), exact(three[2])))
			if ok && (!fits || sum != exactSum) {
				t.Fatalf("Sum(%v) is %d", three, sum)
			}
			if ok {
				held++
			} else {
				failed++
			}
		}
	}
	if failed == 0 || held == 0 {
		t.Errorf("%d sums failed, %d did not: both are to be tested", failed, held)
	}
}
