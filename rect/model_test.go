package rect

import (
	"math"
	"math/rand"
	"testing"

	"greenbelt/api"
)

// These tests follow the definitions of the chapter cell by cell, in small windows at the borders of the grid and
// within it, where all rectangles are compared with all others.

const (
	side = 5 // The ranges of a window's rectangles have numbers from its corner to side beyond it.
	far  = 3 // The greatest distance in windows.
	wide = side + 2*far
)

// isValid is the definition.
func isValid(r api.Rect) bool {
	return 0 <= r.X0 && r.X0 < r.X1 && r.X1 <= 1048576 && 0 <= r.Y0 && r.Y0 < r.Y1 && r.Y1 <= 1048576
}

// window is a part of the plane, also beyond the grid, around (x, y).
type window struct{ x, y int }

// cells is a set of cells of a window, with far cells around the ones that its rectangles may have.
type cells [wide][wide]bool

// windows lie at the corners of the grid, at its sides, and within it.
func windows() []window {
	var l []window
	for _, x := range []int{-1, 500, end - side + 1} {
		for _, y := range []int{-1, 500, end - side + 1} {
			l = append(l, window{x, y})
		}
	}
	return l
}

// rects returns all rectangles with numbers of a window, valid or not.
func (w window) rects() []api.Rect {
	var l []api.Rect
	for x0 := range side + 1 {
		for x1 := range side + 1 {
			for y0 := range side + 1 {
				for y1 := range side + 1 {
					l = append(l, at(w.x+x0, w.y+y0, w.x+x1, w.y+y1))
				}
			}
		}
	}
	return l
}

// some calls a function for all cells of a window, with their places in it, until it returns true.
func (w window) some(f func(i, j, x, y int) bool) bool {
	for i := range wide {
		for j := range wide {
			if f(i, j, w.x+i-far, w.y+j-far) {
				return true
			}
		}
	}
	return false
}

// of returns the cells of a rectangle.
func (w window) of(r api.Rect) (c cells) {
	w.some(func(i, j, x, y int) bool {
		c[i][j] = isValid(r) && r.X0 <= x && x < r.X1 && r.Y0 <= y && y < r.Y1
		return false
	})
	return c
}

// has reports whether a cell at a place, also one outside of the window, is in a set.
func (c *cells) has(i, j int) bool { return 0 <= i && i < wide && 0 <= j && j < wide && c[i][j] }

// near reports whether a set has a cell within a distance of a place.
func (c *cells) near(i, j, d int) bool {
	for k := -d; k <= d; k++ {
		for l := -d; l <= d; l++ {
			if c.has(i+k, j+l) {
				return true
			}
		}
	}
	return false
}

// surrounded reports whether a set has all cells within a distance of a place.
func (c *cells) surrounded(i, j, d int) bool {
	for k := -d; k <= d; k++ {
		for l := -d; l <= d; l++ {
			if !c.has(i+k, j+l) {
				return false
			}
		}
	}
	return true
}

// check fails the test unless a call returned the valid rectangle with the wanted cells and true, or, if there are
// none, the zero rectangle and false.
func (w window) check(t *testing.T, what any, got api.Rect, is bool, want cells) {
	t.Helper()
	empty := want == cells{}
	if is == empty || is != isValid(got) || !is && got != (api.Rect{}) || w.of(got) != want {
		t.Fatalf("%v: %v, %v", what, got, is)
	}
}

// P5.1, P5.4: every rectangle of every window.
func TestOneModel(t *testing.T) {
	for _, w := range windows() {
		for _, r := range w.rects() {
			have, count := w.of(r), 0
			w.some(func(i, j, x, y int) bool {
				if have[i][j] {
					count++
				}
				if Has(r, x, y) != have[i][j] {
					t.Fatal("Has", r, x, y)
				}
				return false
			})
			if Right(r) != isValid(r) || Area(r) != count {
				t.Fatal(r, Right(r), Area(r), count)
			}
			for d := -1; d <= far; d++ {
				w.checkResized(t, r, have, d)
			}
		}
	}
}

// checkResized compares what comes of growing and of shrinking with the cells that are near and surrounded.
func (w window) checkResized(t *testing.T, r api.Rect, have cells, d int) {
	t.Helper()
	var more, less cells
	w.some(func(i, j, x, y int) bool {
		inGrid := 0 <= x && x < 1048576 && 0 <= y && y < 1048576
		more[i][j] = inGrid && have.near(i, j, d)
		less[i][j] = d >= 0 && have[i][j] && have.surrounded(i, j, d)
		return false
	})
	got, is := Grow(r, d)
	w.check(t, []any{"Grow", r, d}, got, is, more)
	got, is = Shrink(r, d)
	w.check(t, []any{"Shrink", r, d}, got, is, less)
}

// relation is what the definitions say of two rectangles.
type relation struct {
	common        cells
	inside, touch bool
	gap           int
}

// relate looks at the cells of a, and at those of b that are near to them.
func (w window) relate(a, b api.Rect, ca, cb *cells) relation {
	valid := isValid(a) && isValid(b)
	if !valid {
		return relation{gap: -1}
	}
	r := relation{inside: true, gap: side}
	beside := false
	w.some(func(i, j, _, _ int) bool {
		if !ca[i][j] {
			return false
		}
		r.common[i][j] = cb[i][j]
		r.inside = r.inside && cb[i][j]
		beside = beside || cb.has(i-1, j) || cb.has(i+1, j) || cb.has(i, j-1) || cb.has(i, j+1)
		for r.gap > 0 && cb.near(i, j, r.gap) {
			r.gap--
		}
		return false
	})
	r.touch = beside && r.common == cells{}
	return r
}

// checkTwo compares everything that is said of two rectangles.
func (w window) checkTwo(t *testing.T, a, b api.Rect, ca, cb *cells) {
	t.Helper()
	want := w.relate(a, b, ca, cb)
	got, is := Intersect(a, b)
	w.check(t, []any{"Intersect", a, b}, got, is, want.common)
	if Inside(a, b) != want.inside || Touch(a, b) != want.touch || Gap(a, b) != want.gap {
		t.Fatal(a, b, Inside(a, b), Touch(a, b), Gap(a, b), want.inside, want.touch, want.gap)
	}
}

// P5.1 to P5.3: all pairs of valid rectangles, and every other one with some.
func TestTwoModel(t *testing.T) {
	for _, w := range windows() {
		var right, wrong []api.Rect
		for _, r := range w.rects() {
			if isValid(r) {
				right = append(right, r)
			} else {
				wrong = append(wrong, r)
			}
		}
		sets := make([]cells, len(right))
		for i, r := range right {
			sets[i] = w.of(r)
		}
		for i, a := range right {
			for j, b := range right {
				w.checkTwo(t, a, b, &sets[i], &sets[j])
			}
		}
		for i, a := range wrong {
			b := right[i%len(right)]
			set, none := w.of(b), cells{}
			w.checkTwo(t, a, b, &none, &set)
			w.checkTwo(t, b, a, &set, &none)
			w.checkTwo(t, a, wrong[len(wrong)-1-i], &none, &none)
		}
	}
}

// P5.5: of all rectangles of the window that have all cells of a list, the bounds have the fewest.
func TestBoundsModel(t *testing.T) {
	random := rand.New(rand.NewSource(1))
	for _, w := range windows() {
		all := w.rects()
		for range 1000 {
			l := make([]api.Rect, random.Intn(9))
			for i := range l {
				l[i] = all[random.Intn(len(all))]
			}
			got, is := Bounds(l)
			if want := least(w, all, l); got != want || is != (want != api.Rect{}) {
				t.Fatal(l, got, is, want)
			}
		}
	}
}

// least returns the one of some rectangles that has all cells of a list, and the fewest of its own.
func least(w window, all, l []api.Rect) api.Rect {
	var want cells
	for _, r := range l {
		set := w.of(r)
		w.some(func(i, j, _, _ int) bool {
			want[i][j] = want[i][j] || set[i][j]
			return false
		})
	}
	best, fewest := api.Rect{}, math.MaxInt
	if want == (cells{}) {
		return best
	}
	for _, r := range all {
		lacks := func(i, j, x, y int) bool {
			return want[i][j] && !(isValid(r) && r.X0 <= x && x < r.X1 && r.Y0 <= y && y < r.Y1)
		}
		// Most rectangles have more cells than the best one so far, and need not be looked at.
		if size := (r.X1 - r.X0) * (r.Y1 - r.Y0); isValid(r) && size < fewest && !w.some(lacks) {
			best, fewest = r, size
		}
	}
	return best
}

// somewhere returns a rectangle of any size, often at a border, or, sometimes, one that is not valid.
func somewhere(random *rand.Rand) api.Rect {
	number := func() int {
		n := random.Intn(1 << random.Intn(21))
		switch random.Intn(8) {
		case 0:
			return 0
		case 1:
			return end
		case 2, 3:
			return n
		case 4, 5:
			return end - n
		case 6:
			return end/2 + n/2
		}
		return n - random.Intn(4)
	}
	x0, x1, y0, y1 := number(), number(), number(), number()
	if random.Intn(20) == 0 {
		return at(x0, y0, x1, y1)
	}
	return at(min(x0, x1), min(y0, y1), max(x0, x1), max(y0, y1))
}

// distances returns distances at which something may change for two rectangles, and others.
func distances(random *rand.Rand, a, b api.Rect) []int {
	l := []int{0, 1, end - 1, end, end + 1, 1 << 40, math.MaxInt - 1, random.Intn(end), random.Intn(40)}
	for _, d := range []int{Gap(a, b), a.X0, a.Y0, end - a.X1, end - a.Y1, (a.X1 - a.X0) / 2, (a.Y1 - a.Y0) / 2} {
		l = append(l, max(d-1, 0), max(d, 0), max(d+1, 0))
	}
	return l
}

// checkLaws fails the test if the properties do not hold for two rectangles, valid or not, and some distances.
func checkLaws(t *testing.T, a, b api.Rect, distances []int) {
	t.Helper()
	ab, is := Intersect(a, b)
	ba, was := Intersect(b, a)
	if ab != ba || is != was || Gap(a, b) != Gap(b, a) || Touch(a, b) != Touch(b, a) {
		t.Fatal("the order matters", a, b)
	}
	if Inside(a, b) != (isValid(a) && ab == a) {
		t.Fatal("Inside", a, b)
	}
	for _, d := range distances {
		grown, _ := Grow(a, d+1)
		if _, near := Intersect(grown, b); isValid(a) && isValid(b) && (Gap(a, b) <= d) != near {
			t.Fatal("Gap and Grow", a, b, d)
		}
		if less, is := Shrink(a, d); is {
			if back, is := Grow(less, d); !is || back != a {
				t.Fatal("Grow of Shrink", a, d, back)
			}
		}
		more, is := Grow(a, d)
		if is && more.X0 > 0 && more.Y0 > 0 && more.X1 < end && more.Y1 < end {
			if back, is := Shrink(more, d); !is || back != a {
				t.Fatal("Shrink of Grow", a, d, back)
			}
		}
		if is != isValid(a) || is && !Inside(a, more) {
			t.Fatal("Grow", a, d, more)
		}
	}
}

// P5.6: the properties hold for the samples, for all that is not valid, and for random rectangles.
func TestLaws(t *testing.T) {
	random := rand.New(rand.NewSource(2))
	all := append(sample(), bad()...)
	for _, a := range all {
		for _, b := range all {
			checkLaws(t, a, b, distances(random, a, b))
		}
	}
	for range 50000 {
		a, b := somewhere(random), somewhere(random)
		checkLaws(t, a, b, distances(random, a, b))
	}
}

// P4: the results are the same when the calls are repeated, whatever was called between them.
func TestRepeated(t *testing.T) {
	type results struct {
		right, has, inside, touch, common, more, less, some bool
		area, gap                                           int
		meet, grown, shrunk, bounds                         api.Rect
	}
	once := func(a, b api.Rect, d int) (r results) {
		r.right, r.has, r.inside, r.touch, r.area, r.gap = Right(a), Has(a, b.X0, b.Y0), Inside(a, b), Touch(a, b), Area(a), Gap(a, b)
		r.meet, r.common = Intersect(a, b)
		r.grown, r.more = Grow(a, d)
		r.shrunk, r.less = Shrink(a, d)
		r.bounds, r.some = Bounds([]api.Rect{a, b})
		return r
	}
	random := rand.New(rand.NewSource(3))
	for range 10000 {
		a, b, d := somewhere(random), somewhere(random), random.Intn(100)-5
		first := once(a, b, d)
		once(b, a, d+1)
		if again := once(a, b, d); again != first {
			t.Fatal(a, b, d, first, again)
		}
	}
}
