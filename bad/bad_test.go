package bad

import (
	"math"
	"math/big"
	"testing"

	"tympan/api"
)

const (
	most   = api.Sp(math.MaxInt64)
	lowest = api.Sp(math.MinInt64)
)

// needs and stores are lengths about the places where the rules change.
func needs() []api.Sp {
	return []api.Sp{
		lowest, lowest + 1, -7230585, -10, -1, 0, 1, 2, 3, 5, 10, 99, 1290, 1291,
		1663496, 1663497, 7230583, 7230584, 7230585, 7230586, 10000000, 1 << 31,
		1 << 40, 1 << 62, most - 1, most,
	}
}

func stores() []api.Sp {
	return []api.Sp{
		lowest, lowest + 1, -1663497, -1, 0, 1, 2, 3, 10, 296, 297, 298, 5601,
		1663495, 1663496, 1663497, 1663498, 1663793, 1663794, 7230584, 7230585,
		10000000, 1 << 31, 1 << 40, 1 << 62, most - 1, most,
	}
}

// exactQuarter is the text of the promise in exact arithmetic.
func exactQuarter(need, has api.Sp) int64 {
	if need < 1 {
		return 0
	}
	if has < 1 {
		return 1291
	}
	n, h, scale := big.NewInt(int64(need)), big.NewInt(int64(has)), big.NewInt(297)
	r := new(big.Int)
	if need <= 7230584 {
		r.Mul(scale, n).Div(r, h)
	} else if has >= 1663497 {
		r.Div(n, new(big.Int).Div(h, scale))
	} else {
		r.Set(n)
	}
	if r.Cmp(big.NewInt(1290)) > 0 {
		return 1291
	}
	return r.Int64()
}

// exactCube is the text of the promise in exact arithmetic.
func exactCube(r int64) int64 {
	if r > 1290 {
		return 10000
	}
	if r < 1 {
		return 0
	}
	b := big.NewInt(r)
	c := new(big.Int).Mul(b, b)
	c.Mul(c, b).Add(c, big.NewInt(1<<17)).Rsh(c, 18)
	return c.Int64()
}

func TestExamples(t *testing.T) { // P3.1
	for _, x := range []struct {
		need, has api.Sp
		want      int
	}{{10, 10, 100}, {5, 10, 12}, {0, 0, 0}, {1, 0, 10000}} {
		if got := Of(x.need, x.has); got != x.want {
			t.Errorf("Of(%d, %d): %d, want %d", x.need, x.has, got, x.want)
		}
	}
}

func TestQuarterByRange(t *testing.T) { // P3.1
	for _, x := range []struct {
		name      string
		need, has api.Sp
		want      int64
	}{
		{"nothing is needed", 0, 10, 0},
		{"nothing is needed and nothing is there", 0, 0, 0},
		{"less than nothing is needed", -1, 10, 0},
		{"the least need", lowest, most, 0},
		{"the least need and the least has", lowest, lowest, 0},
		{"the least need and nothing is there", lowest, 0, 0},
		{"nothing is there", 1, 0, 1291},
		{"less than nothing is there", 1, -1, 1291},
		{"the least has", 1, lowest, 1291},
		{"the greatest need and the least has", most, lowest, 1291},
		{"the least need that counts", 1, 1, 297},
		{"rounded down", 5, 10, 148},
		{"rounded down to 0", 1, 298, 0},
		{"a ratio of 1 after scaling", 1, 297, 1},
		{"the greatest has", 1, most, 0},
		{"just at 1290", 1290, 297, 1290},
		{"just above 1290", 1291, 297, 1291},
		{"far above 1290", 99, 1, 1291},
		{"just below 1291 before rounding", 5000, 1151, 1290},
		{"need just at its limit", 7230584, 7230584, 297},
		{"need just at its limit, has divided would be another", 7230584, 1663793, 1290},
		{"need just above its limit, has divided", 7230585, 1663793, 1290},
		{"need just at its limit, has below its own", 7230584, 1663496, 1290},
		{"need just above its limit, has just below its own", 7230585, 1663496, 1291},
		{"need just above its limit, has just at its own", 7230585, 1663497, 1290},
		{"has divided and rounded down", 7231000, 1663793, 1291},
		{"has divided to the next number", 7231000, 1663794, 1290},
		{"need as it is", 1 << 40, 1, 1291},
		{"has divided, just at 1290", 1290 * 10000, 297 * 10000, 1290},
		{"has divided, still at 1290", 1291*10000 - 1, 297 * 10000, 1290},
		{"has divided, just above 1290", 1291 * 10000, 297 * 10000, 1291},
		{"the greatest of both", most, most, 297},
		{"the greatest need, little has", most, 1663497, 1291},
		{"need just above its limit, the greatest has", 7230585, most, 0},
	} {
		if got := Quarter(x.need, x.has); got != x.want {
			t.Errorf("%s: Quarter(%d, %d): %d, want %d", x.name, x.need, x.has, got, x.want)
		}
	}
}

func TestQuarterIsExact(t *testing.T) { // P3.1
	for _, need := range needs() {
		for _, has := range stores() {
			if got, want := Quarter(need, has), exactQuarter(need, has); got != want {
				t.Errorf("Quarter(%d, %d): %d, want %d", need, has, got, want)
			}
		}
	}
	for need := api.Sp(-3); need < 400; need++ {
		for has := api.Sp(-3); has < 400; has++ {
			if got, want := Quarter(need, has), exactQuarter(need, has); got != want {
				t.Fatalf("Quarter(%d, %d): %d, want %d", need, has, got, want)
			}
		}
	}
}

func TestCubeAtItsEnds(t *testing.T) { // P3.1
	for _, x := range []struct{ r, want int64 }{
		{math.MinInt64, 0}, {math.MinInt64 + 1, 0}, {-1291, 0}, {-1, 0}, {0, 0},
		{1, 0}, {50, 0}, {51, 1}, {297, 100}, {1289, 8170}, {1290, 8189},
		{1291, 10000}, {1292, 10000}, {1 << 32, 10000}, {math.MaxInt64 - 1, 10000},
		{math.MaxInt64, 10000},
	} {
		if got := Cube(x.r); got != x.want {
			t.Errorf("Cube(%d): %d, want %d", x.r, got, x.want)
		}
	}
}

func TestCubeIsExact(t *testing.T) { // P3.1
	for r := int64(-2000); r <= 3000; r++ {
		if got, want := Cube(r), exactCube(r); got != want {
			t.Errorf("Cube(%d): %d, want %d", r, got, want)
		}
	}
}

func TestOfIsCubeOfQuarter(t *testing.T) { // P3.1
	for _, need := range needs() {
		for _, has := range stores() {
			if got, want := Of(need, has), int(exactCube(exactQuarter(need, has))); got != want {
				t.Errorf("Of(%d, %d): %d, want %d", need, has, got, want)
			}
		}
	}
}

func TestBadnessHasBounds(t *testing.T) { // P3.2
	for _, need := range needs() {
		for _, has := range stores() {
			got := Of(need, has)
			if got < 0 || got > 10000 {
				t.Errorf("Of(%d, %d) is outside 0 to 10000: %d", need, has, got)
			}
			if need < 1 && got != 0 {
				t.Errorf("nothing is needed: Of(%d, %d) is %d", need, has, got)
			}
			if need > 0 && has < 1 && got != 10000 {
				t.Errorf("nothing is available: Of(%d, %d) is %d", need, has, got)
			}
		}
	}
}

func TestBadnessOfAllThatIsThere(t *testing.T) { // P3.2
	for need := api.Sp(1); need <= 7230584; need += 997 {
		if got := Of(need, need); got != 100 {
			t.Fatalf("Of(%d, %d): %d", need, need, got)
		}
	}
	if got := Of(7230584, 7230584); got != 100 {
		t.Errorf("at the limit of need: %d", got)
	}
}

// steps are all small lengths and those about the limits, in rising order.
func steps(end api.Sp) []api.Sp {
	l := []api.Sp{lowest, -1}
	for a := api.Sp(0); a < 300; a++ {
		l = append(l, a)
	}
	for a := api.Sp(300); a < end; a += a / 16 {
		l = append(l, a)
	}
	return append(l, end)
}

func TestBadnessDoesNotDecreaseWithNeed(t *testing.T) { // P3.2
	for _, has := range append(steps(1<<40), stores()...) {
		last := 0
		for _, need := range append(steps(7230583), 7230584) {
			got := Of(need, has)
			if got < last {
				t.Fatalf("Of(%d, %d) is %d, less than %d for a smaller need", need, has, got, last)
			}
			last = got
		}
	}
}

func TestBadnessDoesNotIncreaseWithHas(t *testing.T) { // P3.2
	for _, need := range append(steps(7230583), 7230584) {
		last := 10000
		for _, has := range append(steps(1<<40), most-1, most) {
			got := Of(need, has)
			if got > last {
				t.Fatalf("Of(%d, %d) is %d, more than %d for a smaller has", need, has, got, last)
			}
			last = got
		}
	}
}
