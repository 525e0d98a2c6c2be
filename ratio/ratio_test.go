package ratio

import (
	"math"
	"testing"

	"greenbelt/api"
)

const top = 1073741824 // 2^30

// of returns a ratio as it is written, valid or not.
func of(n, d int) api.Ratio { return api.Ratio{N: n, D: d} }

// invalid has ratios that are not valid, each for another reason or at another edge of one.
func invalid() []api.Ratio {
	return []api.Ratio{
		// D is below 1.
		{}, of(1, 0), of(-1, 0), of(5, 0), of(0, -1), of(1, -1), of(-1, -1), of(3, -2), of(1, -top), of(1, -top-1),
		of(1, math.MinInt), of(math.MinInt, math.MinInt), of(math.MinInt, -1), of(math.MinInt, 0),
		// D or N is beyond the limit.
		of(1, top+1), of(-1, top+1), of(0, top+1), of(top, top+1), of(1, top+3), of(1, math.MaxInt), of(0, math.MaxInt),
		of(top+1, 1), of(-top-1, 1), of(top+1, 2), of(-top-1, 2), of(top+1, top), of(math.MaxInt, 1), of(math.MinInt, 1),
		of(math.MinInt, 3), of(math.MaxInt, 2), of(1<<32, 1), of(1, 1<<32), of(1<<32+1, 1), of(1, 1<<32+1),
		of(math.MinInt, math.MaxInt), of(math.MaxInt, math.MaxInt),
		// There is a common divisor.
		of(0, 2), of(0, 3), of(0, top), of(2, 2), of(-2, 2), of(2, 4), of(-2, 4), of(9, 6), of(15, 35), of(top, top),
		of(-top, top), of(top, 2), of(2, top), of(-top, top-2), of(1<<20*3, 1<<10*3), of(32749*32719, 32719),
	}
}

// valid has valid ratios: small ones, ones at the limit, and ones that differ as little as possible.
func valid() []api.Ratio {
	return []api.Ratio{
		of(0, 1), of(1, 1), of(-1, 1), of(2, 1), of(-2, 1), of(7, 1), of(1, 2), of(-1, 2), of(1, 3), of(-1, 3), of(2, 3),
		of(3, 2), of(-3, 2), of(3, 4), of(-7, 4), of(5, 6), of(22, 7), of(-355, 113),
		of(top, 1), of(-top, 1), of(top-1, 1), of(1-top, 1), of(1, top), of(-1, top), of(1, top-1), of(-1, top-1),
		of(top, top-1), of(top-1, top), of(-top, top-1), of(1-top, top), of(top-1, top-2), of(top-2, top-1),
		of(top, 3), of(-top, 3), of(top-1, 2), of(1-top, 2), of(2, top-1), of(3, top), of(1<<29, 1), of(1, 1<<29),
		of(top, top-3), of(top-3, top), of(1<<15, 1), of(1, 1<<15), of(46341, 46340), of(-46341, 46340),
	}
}

// rounded is a valid ratio with its floor and its ceiling.
type rounded struct {
	r      api.Ratio
	lo, hi int
}

// checkRatio fails the test unless a call returned what it has to return.
func checkRatio(t *testing.T, what string, got api.Ratio, e api.Errno, want api.Ratio, wantE api.Errno) {
	t.Helper()
	if got != want || e != wantE {
		t.Errorf("%s: %d/%d, error %d, not %d/%d, error %d", what, got.N, got.D, e, want.N, want.D, wantE)
	}
}

// P4.1: a ratio is valid if D and N are within the limit and have no common divisor.
func TestRight(t *testing.T) {
	for _, r := range valid() {
		if !Right(r) {
			t.Errorf("%d/%d is valid", r.N, r.D)
		}
	}
	for _, r := range invalid() {
		if Right(r) {
			t.Errorf("%d/%d is not valid", r.N, r.D)
		}
	}
}

// P4.1: Make reduces, and the denominator has no sign.
func TestMake(t *testing.T) {
	for _, c := range []struct {
		n, d int
		want api.Ratio
	}{
		{6, -4, of(-3, 2)}, {6, 4, of(3, 2)}, {-6, 4, of(-3, 2)}, {-6, -4, of(3, 2)}, {3, 2, of(3, 2)},
		{0, 1, of(0, 1)}, {0, -1, of(0, 1)}, {0, 5, of(0, 1)}, {0, -7, of(0, 1)},
		{0, math.MaxInt, of(0, 1)}, {0, math.MinInt, of(0, 1)},
		{5, 5, of(1, 1)}, {5, -5, of(-1, 1)}, {1, 1, of(1, 1)}, {-1, -1, of(1, 1)}, {7, 1, of(7, 1)}, {7, -1, of(-7, 1)},
		{1, 3, of(1, 3)}, {3, 9, of(1, 3)}, {9, 3, of(3, 1)}, {2 * 3 * 5 * 7, 3 * 7 * 11, of(10, 11)},
		{13, 21, of(13, 21)}, {832040, 1346269, of(832040, 1346269)},
	} {
		r, e := Make(c.n, c.d)
		checkRatio(t, "Make", r, e, c.want, api.OK)
	}
}

// P4.1: the limit holds for the reduced numbers, and those at it are still valid.
func TestMakeAtLimit(t *testing.T) {
	if Limit != top {
		t.Error("Limit", Limit)
	}
	for _, c := range []struct {
		n, d int
		want api.Ratio
		e    api.Errno
	}{
		{top, 1, of(top, 1), api.OK}, {-top, 1, of(-top, 1), api.OK}, {top, -1, of(-top, 1), api.OK},
		{1, top, of(1, top), api.OK}, {-1, top, of(-1, top), api.OK}, {1, -top, of(-1, top), api.OK},
		{top - 1, top, of(top-1, top), api.OK}, {top, top - 1, of(top, top-1), api.OK}, {top, top, of(1, 1), api.OK},
		{top + 1, 1, of(0, 0), api.ErrRange}, {-top - 1, 1, of(0, 0), api.ErrRange}, {-top - 1, -1, of(0, 0), api.ErrRange},
		{1, top + 1, of(0, 0), api.ErrRange}, {-1, top + 1, of(0, 0), api.ErrRange}, {1, -top - 1, of(0, 0), api.ErrRange},
		{top + 1, top, of(0, 0), api.ErrRange}, {top, top + 1, of(0, 0), api.ErrRange}, {top + 1, top + 1, of(1, 1), api.OK},
		{top + 1, -top - 1, of(-1, 1), api.OK}, {0, top + 1, of(0, 1), api.OK},
		// Beyond the limit, but not when they are reduced.
		{2 * top, 2, of(top, 1), api.OK}, {2 * top, -2, of(-top, 1), api.OK}, {2, 2 * top, of(1, top), api.OK},
		{3 * top, 3 * (top - 1), of(top, top-1), api.OK}, {3 << 40, 2 << 40, of(3, 2), api.OK},
		{2*top + 2, 2, of(0, 0), api.ErrRange}, {2, 2*top + 2, of(0, 0), api.ErrRange}, {2*top + 2, 1, of(0, 0), api.ErrRange},
		// Whose lower 32 bits would be small numbers.
		{1 << 32, 1, of(0, 0), api.ErrRange}, {1<<32 + 1, 1, of(0, 0), api.ErrRange}, {1, 1<<32 + 1, of(0, 0), api.ErrRange},
		{1<<62 + 1, 1, of(0, 0), api.ErrRange}, {1<<62 + 1, 1<<62 + 1, of(1, 1), api.OK},
	} {
		r, e := Make(c.n, c.d)
		checkRatio(t, "Make", r, e, c.want, c.e)
	}
}

// P4.1: Make calculates exactly, also with the least int, whose absolute value is no int.
func TestMakeAtEnds(t *testing.T) {
	for _, c := range []struct {
		n, d int
		want api.Ratio
		e    api.Errno
	}{
		{math.MinInt, math.MinInt, of(1, 1), api.OK}, {math.MaxInt, math.MaxInt, of(1, 1), api.OK},
		{math.MinInt, 1, of(0, 0), api.ErrRange}, {math.MinInt, -1, of(0, 0), api.ErrRange},
		{1, math.MinInt, of(0, 0), api.ErrRange}, {-1, math.MinInt, of(0, 0), api.ErrRange},
		{math.MaxInt, 1, of(0, 0), api.ErrRange}, {math.MaxInt, -1, of(0, 0), api.ErrRange},
		{1, math.MaxInt, of(0, 0), api.ErrRange}, {-1, math.MaxInt, of(0, 0), api.ErrRange},
		{math.MinInt, math.MaxInt, of(0, 0), api.ErrRange}, {math.MaxInt, math.MinInt, of(0, 0), api.ErrRange},
		{-math.MaxInt, math.MaxInt, of(-1, 1), api.OK}, {math.MaxInt, -math.MaxInt, of(-1, 1), api.OK},
		{math.MinInt, 1 << 33, of(-top, 1), api.OK}, {math.MinInt, -1 << 33, of(top, 1), api.OK},
		{math.MinInt, 1 << 32, of(0, 0), api.ErrRange}, {math.MinInt, 1 << 62, of(-2, 1), api.OK},
		{math.MinInt, -1 << 62, of(2, 1), api.OK}, {1 << 62, math.MinInt, of(-1, 2), api.OK},
		{-1 << 62, math.MinInt, of(1, 2), api.OK}, {1 << 33, math.MinInt, of(-1, top), api.OK},
		{-1 << 33, math.MinInt, of(1, top), api.OK}, {1 << 32, math.MinInt, of(0, 0), api.ErrRange},
		{3 << 33, math.MinInt, of(-3, top), api.OK}, {3 << 61, math.MinInt, of(-3, 4), api.OK},
		{math.MaxInt, 7, of(0, 0), api.ErrRange}, {math.MaxInt, 649657, of(0, 0), api.ErrRange},
		{math.MaxInt, math.MaxInt / 49, of(49, 1), api.OK}, {math.MaxInt / 49, -math.MaxInt, of(-1, 49), api.OK},
	} {
		r, e := Make(c.n, c.d)
		checkRatio(t, "Make", r, e, c.want, c.e)
	}
}

// P4.1: nothing is divided by 0.
func TestMakeByZero(t *testing.T) {
	for _, n := range []int{0, 1, -1, 6, top, top + 1, -top - 1, math.MaxInt, math.MinInt} {
		r, e := Make(n, 0)
		checkRatio(t, "Make", r, e, of(0, 0), api.ErrArg)
	}
}

// P4.1: a valid ratio is the only one with its value: Make of its numbers, and of multiples of them, is the same.
func TestMakeOfValid(t *testing.T) {
	for _, v := range valid() {
		for _, k := range []int{1, -1, 2, -2, 3, 10, 1 << 15, -1 << 32, 1<<32 - 1} {
			r, e := Make(k*v.N, k*v.D)
			checkRatio(t, "Make", r, e, v, api.OK)
		}
	}
}

// P4.2: ratios are compared by their values, and Min and Max follow.
func TestCompare(t *testing.T) {
	for _, c := range []struct{ less, more api.Ratio }{
		{of(1, 2), of(2, 3)}, {of(1, 3), of(1, 2)}, {of(-1, 2), of(-1, 3)}, {of(-1, 2), of(1, 3)}, {of(-3, 1), of(2, 7)},
		{of(0, 1), of(1, top)}, {of(-1, top), of(0, 1)}, {of(-1, top), of(1, top)}, {of(-top, 1), of(top, 1)},
		{of(top-1, 1), of(top, 1)}, {of(-top, 1), of(1-top, 1)}, {of(1, top), of(1, top-1)}, {of(-1, top-1), of(-1, top)},
		{of(1, top), of(top, 1)}, {of(-top, 1), of(1, top)}, {of(3, 2), of(2, 1)}, {of(-2, 1), of(-3, 2)},
		// As close to each other as two ratios can be.
		{of(top-2, top-1), of(top-1, top)}, {of(top, top-1), of(top-1, top-2)}, {of(1-top, top), of(2-top, top-1)},
		{of(top-1, top), of(1, 1)}, {of(1, 1), of(top, top-1)}, {of(536870911, top-1), of(1, 2)}, {of(1, 2), of(536870912, top-1)},
		{of(267914296, 433494437), of(433494437, 701408733)}, {of(-433494437, 701408733), of(-267914296, 433494437)},
	} {
		a, b := c.less, c.more
		if Compare(a, b) != -1 || Compare(b, a) != 1 || Compare(a, a) != 0 || Compare(b, b) != 0 {
			t.Error("Compare", a, b)
		}
		if Min(a, b) != a || Min(b, a) != a || Max(a, b) != b || Max(b, a) != b {
			t.Error("Min, Max", a, b)
		}
	}
}

// P4.2: of equal ratios, each is the lesser and the greater one.
func TestCompareEqual(t *testing.T) {
	for _, r := range valid() {
		if Compare(r, r) != 0 || Min(r, r) != r || Max(r, r) != r {
			t.Error(r)
		}
	}
}

// P4.2: what is not valid is not compared.
func TestCompareInvalid(t *testing.T) {
	for _, bad := range invalid() {
		for _, r := range append(valid(), invalid()...) {
			if Compare(bad, r) != 0 || Compare(r, bad) != 0 {
				t.Error("Compare", bad, r)
			}
			for _, got := range []api.Ratio{Min(bad, r), Min(r, bad), Max(bad, r), Max(r, bad)} {
				if got != of(0, 0) {
					t.Error("Min, Max", bad, r, got)
				}
			}
		}
	}
}

// operated is a pair of ratios with the result of an operation.
type operated struct {
	a, b, want api.Ratio
	e          api.Errno
}

// P4.3: sums are reduced, and exist exactly within the limit.
func TestAdd(t *testing.T) {
	for _, c := range []operated{
		{of(1, 2), of(1, 3), of(5, 6), api.OK}, {of(1, 6), of(1, 3), of(1, 2), api.OK}, {of(1, 2), of(1, 2), of(1, 1), api.OK},
		{of(1, 2), of(-1, 2), of(0, 1), api.OK}, {of(-1, 2), of(1, 3), of(-1, 6), api.OK}, {of(-1, 2), of(-1, 3), of(-5, 6), api.OK},
		{of(0, 1), of(0, 1), of(0, 1), api.OK}, {of(0, 1), of(-7, 4), of(-7, 4), api.OK}, {of(5, 1), of(-8, 1), of(-3, 1), api.OK},
		{of(top-1, 1), of(1, 1), of(top, 1), api.OK}, {of(top, 1), of(1, 1), of(0, 0), api.ErrRange},
		{of(1-top, 1), of(-1, 1), of(-top, 1), api.OK}, {of(-top, 1), of(-1, 1), of(0, 0), api.ErrRange},
		{of(top, 1), of(top, 1), of(0, 0), api.ErrRange}, {of(-top, 1), of(-top, 1), of(0, 0), api.ErrRange},
		{of(top, 1), of(-top, 1), of(0, 1), api.OK}, {of(top, 1), of(0, 1), of(top, 1), api.OK},
		{of(top, 1), of(1, 2), of(0, 0), api.ErrRange}, {of(1<<29, 1), of(1<<29, 1), of(top, 1), api.OK},
		{of(1<<29, 1), of(-1, 2), of(top-1, 2), api.OK}, {of(1<<29, 1), of(1, 2), of(0, 0), api.ErrRange},
		{of(1, top), of(-1, top), of(0, 1), api.OK}, {of(1, top), of(1, top), of(1, 1<<29), api.OK},
		{of(1, top), of(top-1, top), of(1, 1), api.OK}, {of(1, top), of(1, top-1), of(0, 0), api.ErrRange},
		{of(1, top), of(1, 1), of(0, 0), api.ErrRange}, {of(1, top), of(-1, 1), of(1-top, top), api.OK},
		{of(1, 1<<15), of(1, 1<<15+1), of(0, 0), api.ErrRange}, {of(1, 1<<15), of(1, 1<<15-1), of(1<<16-1, 1<<15*(1<<15-1)), api.OK},
		// Only the reduced sum of such great unreduced parts is within the limit.
		{of(1, 6*178956969), of(1, 3*178956969), of(1, 2*178956969), api.OK},
		{of(top-1, top), of(top-1, top), of(top-1, 1<<29), api.OK}, {of(top, top-1), of(2-top, top-1), of(2, top-1), api.OK},
		{of(top, top-1), of(top, top-1), of(0, 0), api.ErrRange}, {of(top, top-1), of(-top, top-1), of(0, 1), api.OK},
	} {
		r, e := Add(c.a, c.b)
		checkRatio(t, "Add", r, e, c.want, c.e)
		r, e = Add(c.b, c.a)
		checkRatio(t, "Add", r, e, c.want, c.e)
	}
}

// P4.3: products are reduced, and exist exactly within the limit.
func TestMul(t *testing.T) {
	for _, c := range []operated{
		{of(2, 3), of(3, 4), of(1, 2), api.OK}, {of(1, 2), of(1, 3), of(1, 6), api.OK}, {of(-1, 2), of(1, 3), of(-1, 6), api.OK},
		{of(-1, 2), of(-1, 3), of(1, 6), api.OK}, {of(7, 5), of(5, 7), of(1, 1), api.OK}, {of(-7, 5), of(5, 7), of(-1, 1), api.OK},
		{of(0, 1), of(5, 6), of(0, 1), api.OK}, {of(0, 1), of(-5, 6), of(0, 1), api.OK}, {of(0, 1), of(0, 1), of(0, 1), api.OK},
		{of(1, 1), of(top, top-1), of(top, top-1), api.OK}, {of(-1, 1), of(top, 1), of(-top, 1), api.OK},
		{of(0, 1), of(top, 1), of(0, 1), api.OK}, {of(0, 1), of(1, top), of(0, 1), api.OK},
		{of(top, 1), of(1, top), of(1, 1), api.OK}, {of(-top, 1), of(-1, top), of(1, 1), api.OK},
		{of(top, 1), of(top, 1), of(0, 0), api.ErrRange}, {of(-top, 1), of(top, 1), of(0, 0), api.ErrRange},
		{of(1, top), of(1, top), of(0, 0), api.ErrRange}, {of(1, top), of(-1, top), of(0, 0), api.ErrRange},
		{of(1<<15, 1), of(1<<15, 1), of(top, 1), api.OK}, {of(1<<15, 1), of(1<<15+1, 1), of(0, 0), api.ErrRange},
		{of(-1<<15, 1), of(1<<15, 1), of(-top, 1), api.OK}, {of(-1<<15, 1), of(1<<15+1, 1), of(0, 0), api.ErrRange},
		{of(1, 1<<15), of(1, 1<<15), of(1, top), api.OK}, {of(1, 1<<15), of(1, 1<<15+1), of(0, 0), api.ErrRange},
		{of(1, 1<<29), of(1, 2), of(1, top), api.OK}, {of(1, top), of(1, 2), of(0, 0), api.ErrRange},
		{of(1<<29, 1), of(2, 1), of(top, 1), api.OK}, {of(top, 1), of(2, 1), of(0, 0), api.ErrRange},
		{of(top, 3), of(3, 2), of(1<<29, 1), api.OK}, {of(top, 3), of(2, 1), of(0, 0), api.ErrRange},
		// Only the reduced product of such great unreduced parts is within the limit.
		{of(top, top-1), of(top-1, top), of(1, 1), api.OK}, {of(top-1, top), of(-top, top-1), of(-1, 1), api.OK},
		{of(top, top-1), of(top-1, top-2), of(1<<29, 1<<29-1), api.OK}, {of(top, top-1), of(top, top-1), of(0, 0), api.ErrRange},
		{of(1<<29, top-1), of(top-1, 1), of(1<<29, 1), api.OK}, {of(top-1, 2), of(2, top-1), of(1, 1), api.OK},
	} {
		r, e := Mul(c.a, c.b)
		checkRatio(t, "Mul", r, e, c.want, c.e)
		r, e = Mul(c.b, c.a)
		checkRatio(t, "Mul", r, e, c.want, c.e)
	}
}

// P4.3: what is not valid is not added or multiplied, also if its value would do.
func TestOperationsInvalid(t *testing.T) {
	for _, bad := range invalid() {
		for _, r := range append(valid(), invalid()...) {
			for _, operation := range []func(a, b api.Ratio) (api.Ratio, api.Errno){Add, Mul} {
				s, e := operation(bad, r)
				checkRatio(t, "bad first", s, e, of(0, 0), api.ErrArg)
				s, e = operation(r, bad)
				checkRatio(t, "bad second", s, e, of(0, 0), api.ErrArg)
			}
		}
	}
}

// P4.4: Floor rounds down and Ceil up, on both sides of 0.
func TestRounding(t *testing.T) {
	for _, c := range []rounded{
		{of(0, 1), 0, 0}, {of(1, 1), 1, 1}, {of(-1, 1), -1, -1}, {of(7, 1), 7, 7}, {of(-7, 1), -7, -7},
		{of(3, 2), 1, 2}, {of(-3, 2), -2, -1}, {of(1, 2), 0, 1}, {of(-1, 2), -1, 0}, {of(1, 3), 0, 1}, {of(2, 3), 0, 1},
		{of(-1, 3), -1, 0}, {of(-2, 3), -1, 0}, {of(7, 3), 2, 3}, {of(8, 3), 2, 3}, {of(-7, 3), -3, -2}, {of(-8, 3), -3, -2},
		{of(top, 1), top, top}, {of(-top, 1), -top, -top}, {of(1, top), 0, 1}, {of(-1, top), -1, 0},
		{of(top-1, top), 0, 1}, {of(1-top, top), -1, 0}, {of(top, top-1), 1, 2}, {of(-top, top-1), -2, -1},
		{of(top-1, 2), 1<<29 - 1, 1 << 29}, {of(1-top, 2), -1 << 29, 1 - 1<<29},
		{of(top, 3), 357913941, 357913942}, {of(-top, 3), -357913942, -357913941},
	} {
		if Floor(c.r) != c.lo || Ceil(c.r) != c.hi {
			t.Errorf("%d/%d: from %d to %d, not from %d to %d", c.r.N, c.r.D, Floor(c.r), Ceil(c.r), c.lo, c.hi)
		}
	}
}

// P4.4: what is not valid is not rounded, also if its value could be.
func TestRoundingInvalid(t *testing.T) {
	for _, r := range invalid() {
		if Floor(r) != 0 || Ceil(r) != 0 {
			t.Errorf("%d/%d: from %d to %d", r.N, r.D, Floor(r), Ceil(r))
		}
	}
}

// P4.5: the arguments stay as they are, and so do the results when the calls are repeated.
func TestArgumentsStay(t *testing.T) {
	type results struct {
		right       bool
		order       int
		sum, prod   api.Ratio
		sumE, prodE api.Errno
		lo, hi      int
		least, most api.Ratio
	}
	all := append(valid(), invalid()...)
	for _, first := range all {
		for _, second := range all {
			a, b := first, second
			once := func() (r results) {
				r.right, r.order, r.lo, r.hi = Right(a), Compare(a, b), Floor(a), Ceil(a)
				r.sum, r.sumE = Add(a, b)
				r.prod, r.prodE = Mul(a, b)
				r.least, r.most = Min(a, b), Max(a, b)
				return r
			}
			before := once()
			if a != first || b != second {
				t.Fatalf("%v, %v became %v, %v", first, second, a, b)
			}
			if after := once(); after != before {
				t.Fatalf("%v, %v: %v, then %v", a, b, before, after)
			}
		}
	}
}
