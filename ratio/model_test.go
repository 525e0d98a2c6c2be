package ratio

import (
	"math"
	"math/big"
	"math/rand"
	"testing"

	"greenbelt/api"
)

// These tests compare the package with fractions of any size, whose values are the exact ones.

// value returns the value of a ratio whose D is not 0.
func value(r api.Ratio) *big.Rat { return fraction(r.N, r.D) }

func fraction(n, d int) *big.Rat {
	return new(big.Rat).SetFrac(big.NewInt(int64(n)), big.NewInt(int64(d)))
}

// ratioOf returns the valid ratio with a value. Fractions of any size are kept in lowest terms, with D above 0.
func ratioOf(v *big.Rat) (api.Ratio, api.Errno) {
	limit := big.NewInt(top)
	if v.Num().CmpAbs(limit) > 0 || v.Denom().Cmp(limit) > 0 {
		return api.Ratio{}, api.ErrRange
	}
	return of(int(v.Num().Int64()), int(v.Denom().Int64())), api.OK
}

// isValid follows the definition: no divisor of both numbers but 1.
func isValid(r api.Ratio) bool {
	if r.D < 1 || r.D > top || r.N < -top || r.N > top {
		return false
	}
	n, d := big.NewInt(int64(r.N)), big.NewInt(int64(r.D))
	return new(big.Int).GCD(nil, nil, n.Abs(n), d).Cmp(big.NewInt(1)) == 0
}

// checkOne compares everything that is done with one pair of ints.
func checkOne(t *testing.T, n, d int) {
	t.Helper()
	r := of(n, d)
	right := isValid(r)
	if Right(r) != right {
		t.Fatalf("Right(%d/%d) is %v", n, d, !right)
	}
	if d == 0 {
		m, e := Make(n, d)
		checkRatio(t, "Make", m, e, api.Ratio{}, api.ErrArg)
	} else {
		want, wantE := ratioOf(fraction(n, d))
		m, e := Make(n, d)
		checkRatio(t, "Make", m, e, want, wantE)
	}
	lo, hi := 0, 0
	if right {
		lo, hi = floorOf(n, d), -floorOf(-n, d)
	}
	if Floor(r) != lo || Ceil(r) != hi {
		t.Fatalf("%d/%d: from %d to %d, not from %d to %d", n, d, Floor(r), Ceil(r), lo, hi)
	}
}

// floorOf rounds n/d down, for a d above 0: big's Div leaves a remainder that is not negative.
func floorOf(n, d int) int {
	return int(new(big.Int).Div(big.NewInt(int64(n)), big.NewInt(int64(d))).Int64())
}

// checkTwo compares everything that is done with two ratios, valid or not.
func checkTwo(t *testing.T, a, b api.Ratio) {
	t.Helper()
	order, least, most := 0, api.Ratio{}, api.Ratio{}
	sum, sumE, product, productE := api.Ratio{}, api.ErrArg, api.Ratio{}, api.ErrArg
	if isValid(a) && isValid(b) {
		order, least, most = value(a).Cmp(value(b)), a, b
		if order > 0 {
			least, most = b, a
		}
		sum, sumE = ratioOf(new(big.Rat).Add(value(a), value(b)))
		product, productE = ratioOf(new(big.Rat).Mul(value(a), value(b)))
	}
	if Compare(a, b) != order || Min(a, b) != least || Max(a, b) != most {
		t.Fatalf("%v, %v: order %d, %v, %v", a, b, Compare(a, b), Min(a, b), Max(a, b))
	}
	s, e := Add(a, b)
	checkRatio(t, "Add", s, e, sum, sumE)
	s, e = Mul(a, b)
	checkRatio(t, "Mul", s, e, product, productE)
}

// edges has ints near the ends of what is allowed, and of the ints.
func edges() []int {
	var l []int
	for _, middle := range []int{0, top, -top, 2 * top, 1 << 15, -1 << 15, 1 << 32, 1 << 60, 1 << 62, -1 << 62} {
		for i := -4; i <= 4; i++ {
			l = append(l, middle+i)
		}
	}
	for i := range 5 {
		l = append(l, math.MinInt+i, math.MaxInt-i)
	}
	return l
}

// somewhere returns an int, small or great or near an edge.
func somewhere(r *rand.Rand) int {
	switch r.Intn(4) {
	case 0:
		return r.Intn(41) - 20
	case 1:
		return edges()[r.Intn(100)]
	case 2:
		return r.Intn(2*top+1) - top
	}
	return int(r.Uint64() >> r.Intn(64))
}

// someRatio returns a valid ratio, whose numbers are small or great.
func someRatio(r *rand.Rand) api.Ratio {
	for {
		n, d := r.Intn(2*top+1)-top, 1+r.Intn(top)
		m, e := Make(n>>r.Intn(31), max(1, d>>r.Intn(31)))
		if e == api.OK {
			return m
		}
	}
}

// small returns all valid ratios with numbers up to most.
func small(most int) []api.Ratio {
	var l []api.Ratio
	for d := 1; d <= most; d++ {
		for n := -most; n <= most; n++ {
			if r := of(n, d); isValid(r) {
				l = append(l, r)
			}
		}
	}
	return l
}

// P4.1, P4.4: all small ints, all ints near the edges, and random ones.
func TestOneModel(t *testing.T) {
	for n := -60; n <= 60; n++ {
		for d := -60; d <= 60; d++ {
			checkOne(t, n, d)
		}
	}
	for _, n := range edges() {
		for _, d := range edges() {
			checkOne(t, n, d)
		}
	}
	r := rand.New(rand.NewSource(1))
	for range 50000 {
		n, d, k := somewhere(r), somewhere(r), 1+r.Intn(1<<20)
		checkOne(t, n, d)
		checkOne(t, n*k, d*k)
		v := someRatio(r)
		checkOne(t, v.N, v.D)
	}
}

// P4.2, P4.3: all small ratios, valid or not, and all that stand at edges.
func TestTwoModel(t *testing.T) {
	var few []api.Ratio
	for n := -6; n <= 6; n++ {
		for d := -2; d <= 6; d++ {
			few = append(few, of(n, d))
		}
	}
	for _, l := range [][]api.Ratio{few, append(valid(), invalid()...)} {
		for _, a := range l {
			for _, b := range l {
				checkTwo(t, a, b)
			}
		}
	}
}

// P4.2, P4.3: random ratios, and ones that are close to them or to what cancels them.
func TestTwoModelRandom(t *testing.T) {
	r := rand.New(rand.NewSource(2))
	for range 50000 {
		a, b := someRatio(r), someRatio(r)
		checkTwo(t, a, b)
		checkTwo(t, a, of(-a.N, a.D))
		checkTwo(t, a, of(a.D, max(1, a.N)))
		checkTwo(t, a, of(a.N+r.Intn(3)-1, a.D+r.Intn(3)-1))
		checkTwo(t, of(somewhere(r), somewhere(r)), a)
	}
}

// sum and product are operations on ratios that may not exist.
func sum(a, b api.Ratio) api.Ratio     { s, _ := Add(a, b); return s }
func product(a, b api.Ratio) api.Ratio { p, _ := Mul(a, b); return p }

// checkLaws fails the test if a law is broken for three valid ratios, and counts the laws of which all results exist.
func checkLaws(t *testing.T, a, b, c api.Ratio) int {
	t.Helper()
	if sum(a, b) != sum(b, a) || product(a, b) != product(b, a) {
		t.Fatal("not commutative", a, b)
	}
	exist := 0
	// What does not exist is the zero ratio, which is not valid, so all that is made of it does not exist either.
	same := func(what string, x, y api.Ratio) {
		if !isValid(x) || !isValid(y) {
			return
		}
		exist++
		if x != y {
			t.Fatal(what, a, b, c, x, y)
		}
	}
	same("sums are not associative", sum(sum(a, b), c), sum(a, sum(b, c)))
	same("products are not associative", product(product(a, b), c), product(a, product(b, c)))
	same("not distributive", product(a, sum(b, c)), sum(product(a, b), product(a, c)))
	if x, y := sum(a, c), sum(b, c); isValid(x) && isValid(y) {
		exist++
		if Compare(x, y) != Compare(a, b) {
			t.Fatal("the order does not agree with sums", a, b, c)
		}
	}
	return exist
}

// checkOrder fails the test if Compare is no total order of three valid ratios.
func checkOrder(t *testing.T, a, b, c api.Ratio) {
	t.Helper()
	if Compare(a, b) != -Compare(b, a) || (Compare(a, b) == 0) != (a == b) {
		t.Fatal("not antisymmetric", a, b)
	}
	if Compare(a, b) <= 0 && Compare(b, c) <= 0 && Compare(a, c) > 0 {
		t.Fatal("not transitive", a, b, c)
	}
}

// P4.6: the laws hold for all small ratios, with all results, and for those at the edges, where results are missing.
func TestLaws(t *testing.T) {
	few := small(5)
	for _, a := range few {
		for _, b := range few {
			for _, c := range few {
				checkOrder(t, a, b, c)
				if checkLaws(t, a, b, c) != 4 {
					t.Fatal("a result is missing", a, b, c)
				}
			}
		}
	}
	edge := valid()
	for _, a := range edge {
		for _, b := range edge {
			for _, c := range edge {
				checkOrder(t, a, b, c)
				checkLaws(t, a, b, c)
			}
		}
	}
}

// P4.6: the laws hold for random ratios.
func TestLawsRandom(t *testing.T) {
	r := rand.New(rand.NewSource(3))
	exist := 0
	for range 100000 {
		a, b, c := someRatio(r), someRatio(r), someRatio(r)
		checkOrder(t, a, b, c)
		exist += checkLaws(t, a, b, c)
	}
	if exist < 10000 {
		t.Error("too few results exist:", exist)
	}
}

// checkRounded fails the test if the whole numbers around a valid ratio are not those of the property.
func checkRounded(t *testing.T, r api.Ratio) {
	t.Helper()
	lo := Floor(r)
	if fraction(lo, 1).Cmp(value(r)) > 0 || fraction(lo+1, 1).Cmp(value(r)) <= 0 {
		t.Fatal("Floor", r, lo)
	}
	want := lo + 1
	if r.D == 1 {
		want = lo
	}
	if Ceil(r) != want {
		t.Fatal("Ceil", r, Ceil(r))
	}
	// The package's own order says the same, where the whole numbers are ratios.
	if Compare(of(lo, 1), r) > 0 || lo < top && Compare(r, of(lo+1, 1)) >= 0 {
		t.Fatal("Compare", r, lo)
	}
}

// P4.7: a ratio is between its floor, which it may be, and the next whole number, which is the ceiling of a fraction.
func TestRoundedBetween(t *testing.T) {
	for _, r := range append(small(40), valid()...) {
		checkRounded(t, r)
	}
	random := rand.New(rand.NewSource(4))
	for range 100000 {
		checkRounded(t, someRatio(random))
	}
}
