// Package sp is layer 1: arithmetic with scaled points that detects overflow.
// See shared/doc/01-sp.md.
package sp

import (
	"tympan/api"
)

// Meter adds up lengths; once a result is outside the range it stays spoiled,
// so that a caller may check once, after many steps. Its zero value is ready
// for use.
type Meter struct {
	at      api.Sp
	spoiled bool
}

// Add returns a + b and true, or 0 and false if that is outside the range.
func Add(a, b api.Sp) (api.Sp, bool) {
	sum := a + b
	// A sum that wrapped round lies on the wrong side of a.
	if (sum > a) != (b > 0) {
		return 0, false
	}
	return sum, true
}

// Sub returns a - b and true, or 0 and false if that is outside the range.
func Sub(a, b api.Sp) (api.Sp, bool) {
	diff := a - b
	// As for Add. Adding -b instead would fail for the least b, which has no
	// opposite.
	if (diff < a) != (b > 0) {
		return 0, false
	}
	return diff, true
}

// Neg returns 0 - a and true, or 0 and false if that is outside the range.
func Neg(a api.Sp) (api.Sp, bool) { return Sub(0, a) }

// Mul returns n * a and true, or 0 and false if that is outside the range.
func Mul(a api.Sp, n int64) (api.Sp, bool) {
	switch n {
	case 0:
		return 0, true
	case -1:
		// The division below wraps round for the least number and -1, and
		// would not notice.
		return Neg(a)
	}
	product := a * api.Sp(n)
	if product/api.Sp(n) != a {
		return 0, false
	}
	return product, true
}

// Sum adds the arguments from left to right; it returns 0 and false if one of
// these sums is outside the range.
func Sum(l ...api.Sp) (api.Sp, bool) {
	m := New()
	each(m.Add, l...)
	return m.Value()
}

// each stops at the first length for which visit returns false.
func each(visit func(api.Sp) bool, l ...api.Sp) {
	for _, a := range l {
		if !visit(a) {
			return
		}
	}
}

// Up returns the smallest multiple of step that is not below a, and true; or 0
// and false if step is below 1 or the result is outside the range.
func Up(a, step api.Sp) (api.Sp, bool) {
	if step < 1 {
		return 0, false
	}
	above := excess(a, step)
	if above == 0 {
		return a, true
	}
	return Add(a, step-above)
}

// Down returns the greatest multiple of step that is not above a, and true; or
// 0 and false if step is below 1 or the result is outside the range.
func Down(a, step api.Sp) (api.Sp, bool) {
	if step < 1 {
		return 0, false
	}
	return Sub(a, excess(a, step))
}

// excess returns by how much a exceeds the multiple of step below it. Go's
// remainder has the sign of a, so a negative one counts from the multiple above.
func excess(a, step api.Sp) api.Sp {
	above := a % step
	if above < 0 {
		above += step
	}
	return above
}

// New returns a meter with the value 0.
func New() *Meter { return &Meter{} }

// Add adds a to the value and returns true, or spoils the meter and returns
// false if the result is outside the range.
func (m *Meter) Add(a api.Sp) bool { return m.change(Add, a) }

// Sub subtracts a from the value and returns true, or spoils the meter and
// returns false if the result is outside the range.
func (m *Meter) Sub(a api.Sp) bool { return m.change(Sub, a) }

// Value returns the value and true, or 0 and false if the meter is spoiled.
func (m *Meter) Value() (api.Sp, bool) {
	if m == nil || m.spoiled {
		return 0, false
	}
	return m.at, true
}

// change is Add and Sub in one, so that both spoil a meter by the same rule.
func (m *Meter) change(by func(a, b api.Sp) (api.Sp, bool), a api.Sp) bool {
	if m == nil || m.spoiled {
		return false
	}
	at, ok := by(m.at, a)
	m.at, m.spoiled = at, !ok
	return ok
}
