package parcel

import (
	"fmt"
	"math"
	"slices"
	"testing"

	"greenbelt/api"
	"greenbelt/region"
)

const (
	end  = 1048576    // 2^20
	last = 1073741824 // 2^30, the greatest number of a lot
)

// list returns the rectangles with the given numbers, four each, valid or not.
func list(n ...int) []api.Rect {
	var l []api.Rect
	for ; len(n) > 0; n = n[4:] {
		l = append(l, api.Rect{X0: n[0], Y0: n[1], X1: n[2], Y1: n[3]})
	}
	return l
}

// cell returns the region of one cell.
func cell(x, y int) []api.Rect { return list(x, y, x+1, y+1) }

// lot returns a lot, valid or not.
func lot(id, owner int, area []api.Rect, from ...int) api.Lot {
	return api.Lot{Id: id, Owner: owner, Area: area, From: from}
}

// wall returns the region of the columns from x0 to x1, of which every second one is 5 and the other ones are 6 cells high:
// it has a rectangle for each column.
func wall(x0, x1, y int) []api.Rect {
	var l []api.Rect
	for x := x0; x < x1; x++ {
		l = append(l, api.Rect{X0: x, Y0: y, X1: x + 1, Y1: y + 5 + x%2})
	}
	return l
}

// comb returns the region of a column and n teeth to the right of it: n + 1 rectangles.
func comb(x, y, n, length int) []api.Rect {
	l := list(x, y, x+1, y+2*n)
	for i := range n {
		l = append(l, list(x+1, y+2*i, x+1+length, y+2*i+1)...)
	}
	return l
}

// posts returns the region of n cells that do not touch.
func posts(n int) []api.Rect {
	var l []api.Rect
	for i := range n {
		l = append(l, cell(2*i, 7)...)
	}
	return l
}

// but returns the cells of a without those of b.
func but(a, b []api.Rect) []api.Rect {
	c, e := region.Minus(a, b)
	if e != api.OK {
		panic(fmt.Sprint("no region: ", a, b))
	}
	return c
}

// grid returns the region of all cells.
func grid() []api.Rect { return list(0, 0, end, end) }

// block returns a land of n lots of one cell each: 150 in a row of cells, with the Ids 3, 6, 9, and so on, and the owner 4.
func block(n int) []api.Lot {
	var l []api.Lot
	for i := range n {
		l = append(l, lot(3*i+3, 4, cell(i%150, i/150)))
	}
	return l
}

// row returns the land of the chapter's examples, and more: 1 and 2 touch, 3 surrounds 4, and 5 touches 3 at a corner only.
func row() []api.Lot {
	return []api.Lot{
		lot(10, 7, list(0, 0, 4, 2)),
		lot(20, 7, list(4, 0, 6, 2)),
		lot(30, 8, list(0, 5, 1, 8, 1, 5, 2, 6, 1, 7, 2, 8, 2, 5, 3, 8), 3, 4),
		lot(40, 0, cell(1, 6), 3, 12, last-1),
		lot(50, 7, list(3, 8, 5, 9)),
	}
}

// notRegions has lists that are no regions, each for another reason.
func notRegions() [][]api.Rect {
	l := [][]api.Rect{
		list(0, 0, 1, 1, 1, 0, 2, 1), list(0, 0, 1, 1, 0, 1, 1, 2), list(0, 0, 1, 1, 0, 0, 1, 1), list(1, 0, 2, 1, 0, 0, 1, 1), list(0, 2, 1, 3, 0, 0, 1, 1),
		list(0, 0, 2, 2, 1, 1, 3, 3), list(0, 0, 9, 9, 3, 3, 4, 4), list(0, 0, 2, 1, 1, 1, 3, 2),
		wall(0, 201, 0), wall(0, 400, 0), comb(0, 0, 200, 3), slices.Repeat(cell(0, 0), 1000),
	}
	for _, r := range list(0, 0, 0, 0, 3, 3, 3, 4, 3, 3, 4, 3, 4, 3, 3, 4, -1, 0, 1, 1, 0, -1, 1, 1, 0, 0, end+1, 1, 0, 0, 1, end+1,
		0, 0, math.MaxInt, math.MaxInt, math.MinInt, math.MinInt, math.MaxInt, math.MaxInt, math.MinInt, 0, 1, 1) {
		l = append(l, []api.Rect{r}, append(list(0, 0, 1, 1), r), append([]api.Rect{r}, list(9, 9, 20, 20)...))
	}
	return l
}

// severals has regions that are not one part: none, or several, of which some meet at corners.
func severals() [][]api.Rect {
	return [][]api.Rect{
		nil, {}, list(0, 0, 1, 1, 1, 1, 2, 2), list(0, 1, 1, 2, 1, 0, 2, 1), list(0, 0, 1, 1, 0, 2, 1, 3), list(0, 0, 1, 1, 2, 0, 3, 1), list(0, 0, 1, 1, end-1, end-1, end, end),
		list(0, 0, 1, 9, 1, 0, 8, 1, 1, 8, 8, 9, 3, 3, 4, 4, 8, 0, 9, 9)[:0], list(0, 0, 3, 9, 3, 0, 4, 4, 3, 5, 4, 9, 4, 0, 5, 3, 4, 4, 5, 5, 4, 6, 5, 9), posts(2), posts(200),
	}
}

// shapes has regions of one part each.
func shapes() [][]api.Rect {
	return [][]api.Rect{
		cell(0, 0), cell(end-1, 0), cell(0, end-1), cell(end-1, end-1), cell(700, 90), grid(), list(0, 0, end, 1), list(end-1, 0, end, end), list(1, 2, 3, 4),
		but(list(0, 0, 3, 3), cell(1, 1)), list(0, 0, 1, 3, 1, 0, 3, 4), wall(0, 200, 0), wall(end-200, end, end-6), comb(0, 0, 199, 1), comb(5, end-398, 199, end-6), but(grid(), wall(7, 57, 7)),
	}
}

// notNumbers has numbers that no lot may have.
func notNumbers() []int {
	return []int{0, -1, -2, last + 1, last + 2, 2 * last, -last, 1 << 32, 1<<32 + 1, 1<<32 + 60, -1 << 32, 1 - 1<<32, 1 << 62, math.MinInt, math.MinInt + 1, math.MaxInt, math.MaxInt - 1}
}

// notOwners has numbers that no owner may have.
func notOwners() []int { return notNumbers()[1:] }

// notLots has lots that are not valid, each for another reason.
func notLots() []api.Lot {
	a := cell(500, 500)
	l := []api.Lot{{}, {Id: 60}, lot(60, 7, a, 2, 1), lot(60, 7, a, 1, 1), lot(60, 7, a, 1, 2, 2), lot(60, 7, a, 1, 2, 3, 5, 4), lot(60, 7, a, 0, 1), lot(60, 7, a, last, last+1), lot(60, 7, a, 9, math.MinInt), lot(60, 7, a, math.MaxInt, 9)}
	for _, n := range notNumbers() {
		l = append(l, lot(n, 7, a), lot(60, 7, a, n))
	}
	for _, n := range notOwners() {
		l = append(l, lot(60, n, a))
	}
	for _, a := range append(notRegions(), severals()...) {
		l = append(l, lot(60, 7, a))
	}
	return l
}

// fail describes a wrong result. Long lists are shortened.
func fail(t *testing.T, what any, result ...any) {
	t.Helper()
	short := func(v any) string {
		s := fmt.Sprint(v)
		return s[:min(len(s), 400)]
	}
	t.Errorf("%s: %s", short(what), short(result))
}

// same reports whether two lots are equal.
func same(a, b api.Lot) bool {
	return a.Id == b.Id && a.Owner == b.Owner && slices.Equal(a.Area, b.Area) && slices.Equal(a.From, b.From)
}

// check fails the test unless a call returned the wanted lots and error.
func check(t *testing.T, what any, got []api.Lot, e api.Errno, want []api.Lot, is api.Errno) {
	t.Helper()
	if e != is || !slices.EqualFunc(got, want, same) {
		fail(t, what, e, got, "not", is, want)
	}
}

// without returns a land without the lots with some Ids, and with others.
func without(land []api.Lot, gone []int, come ...api.Lot) []api.Lot {
	l := slices.Clone(come)
	for _, v := range land {
		if !slices.Contains(gone, v.Id) {
			l = append(l, v)
		}
	}
	slices.SortFunc(l, func(a, b api.Lot) int { return a.Id - b.Id })
	return l
}

// first returns the first one of some errors in the order of a contract.
func first(order []api.Errno, found ...api.Errno) api.Errno {
	for _, e := range order {
		if slices.Contains(found, e) {
			return e
		}
	}
	return api.OK
}

// moved returns a region elsewhere.
func moved(a []api.Rect, dx, dy int) []api.Rect {
	b, e := region.Shift(a, dx, dy)
	if e != api.OK {
		panic(fmt.Sprint("cannot be moved: ", a, dx, dy))
	}
	return b
}

// P13.1: one valid lot is a land, with all numbers up to the limits.
func TestRightLot(t *testing.T) {
	long := make([]int, 100000)
	for i := range long {
		long[i] = 2 * (i + 1)
	}
	for _, a := range shapes() {
		for _, id := range []int{1, 2, 60, last - 1, last} {
			for _, owner := range []int{0, 1, 2, 60, id, last - 1, last} {
				if !Right([]api.Lot{lot(id, owner, a)}) {
					t.Error(id, owner, a)
				}
			}
		}
		for _, from := range [][]int{{}, {1}, {last}, {1, 2}, {1, last}, {59, 61}, {1, 59, 61, last - 1, last}} {
			if !Right([]api.Lot{lot(60, 0, a, from...)}) {
				t.Error(from, a)
			}
		}
	}
	if !Right([]api.Lot{lot(5, 0, cell(0, 0), long...)}) || Right([]api.Lot{lot(100000, 0, cell(0, 0), long...)}) {
		t.Error("a long line")
	}
	for _, n := range notLots() {
		if Right([]api.Lot{n}) {
			fail(t, "one lot", n)
		}
	}
}

// P13.1: lists of several lots; one lot that is not valid is enough, wherever it stands.
func TestRightLots(t *testing.T) {
	for i, l := range [][]api.Lot{
		nil, {}, row(), row()[1:], row()[:1], block(2), block(150), block(1000),
		{lot(1, 7, cell(0, 0)), lot(last, 7, cell(1, 1))},
		{lot(1, 7, cell(0, 0)), lot(2, 7, cell(1, 1)), lot(3, 7, cell(0, 1)), lot(4, 7, cell(1, 0))},
		{lot(1, 7, grid())},
		{lot(1, 7, cell(5, 5)), lot(2, 7, but(grid(), cell(5, 5)))},
		{lot(1, 7, list(0, 0, end, 1)), lot(2, 7, list(0, 1, end, 2)), lot(3, 7, list(0, end-1, end, end))},
		{lot(1, 7, list(0, 0, 1, end)), lot(2, 7, list(1, 0, 2, end)), lot(3, 7, list(end-1, 0, end, end))},
		{lot(1, 7, comb(0, 0, 199, 50)), lot(2, 8, moved(comb(0, 0, 199, 50), 51, 0)), lot(3, 8, cell(5, 1))},
		// The same numbers in several lines.
		{lot(5, 7, cell(0, 0), 1, 2, 3), lot(6, 7, cell(1, 1), 1, 2, 3), lot(7, 0, cell(2, 2), 2, 3, 4, 8)},
	} {
		if !Right(l) {
			fail(t, i, l)
		}
	}
	low, high := lot(1, 0, cell(end-1, 90)), lot(last, 0, cell(90, end-1))
	for _, n := range notLots() {
		for _, l := range [][]api.Lot{{low, n}, {n, high}, {low, n, high}, append(row(), n), append(append(row(), n), high)} {
			if Right(l) {
				fail(t, l)
			}
		}
	}
}

// P13.1: the Ids ascend, and are in no line.
func TestRightNumbers(t *testing.T) {
	a, b, c := cell(0, 0), cell(1, 0), cell(9, 9)
	for _, ids := range [][3]int{{2, 1, 3}, {1, 3, 2}, {3, 2, 1}, {1, 1, 2}, {1, 2, 2}, {2, 1, 2}, {2, 2, 2}, {1, 2, 1}, {last, 1, 2}, {1, last, last}, {5, 6, 4}} {
		if Right([]api.Lot{lot(ids[0], 0, a), lot(ids[1], 0, b), lot(ids[2], 0, c)}) {
			t.Error(ids)
		}
	}
	ids := []int{3, 50, last - 1}
	for i := range ids {
		for n := range 60 {
			for _, from := range [][]int{{n + 1}, {n + 1, 70}, {n + 1, last}, {n + 1, 70, last - 1}} {
				l := []api.Lot{lot(3, 0, a), lot(50, 0, b), lot(last-1, 0, c)}
				l[i].From = from
				is := n+1 == 3 || n+1 == 50 || slices.Contains(from, last-1)
				if Right(l) == is {
					t.Error(i, from)
				}
			}
		}
	}
	// Each Id of a long list in each line of some of them.
	for i := range 300 {
		for _, at := range []int{0, 1, 149, 150, 298, 299} {
			l := block(300)
			l[at].From = []int{3*i + 2, 3*i + 3}
			if Right(l) {
				t.Error(i, at)
			}
			l[at].From[1] = 3*i + 4
			if !Right(l) {
				t.Error(i, at)
			}
		}
	}
}

// P13.1: lots that have cells in common, or only one, or that just do not.
func TestRightCells(t *testing.T) {
	for i, c := range []struct {
		a, b []api.Rect
		want bool
	}{
		{cell(0, 0), cell(0, 0), false}, {cell(end-1, end-1), cell(end-1, end-1), false}, {grid(), cell(0, 0), false}, {grid(), cell(end-1, end-1), false}, {grid(), grid(), false},
		{list(0, 0, 3, 3), list(2, 2, 5, 5), false}, {list(0, 0, 3, 3), list(3, 2, 5, 5), true}, {list(0, 0, 3, 3), list(2, 3, 5, 5), true}, {list(0, 0, 3, 3), list(3, 3, 5, 5), true},
		{list(0, 2, 3, 5), list(2, 0, 5, 3), false}, {list(0, 2, 3, 5), list(3, 0, 5, 3), true}, {list(0, 2, 3, 5), list(2, 0, 5, 2), true},
		{list(0, 3, 9, 6), list(3, 0, 6, 9), false}, {list(0, 0, 9, 9), list(3, 3, 6, 6), false}, {list(0, 0, 9, 1), list(8, 0, 20, 1), false}, {list(0, 0, 9, 1), list(9, 0, 20, 1), true}, {list(0, 0, 1, 9), list(0, 8, 1, 20), false}, {list(0, 0, 1, 9), list(0, 9, 1, 20), true},
		{but(list(0, 0, 5, 5), cell(2, 2)), cell(2, 2), true}, {but(list(0, 0, 5, 5), cell(2, 2)), list(2, 2, 3, 4), false}, {but(list(0, 0, 5, 5), list(1, 1, 4, 4)), list(1, 1, 4, 4), true}, {but(list(0, 0, 5, 5), list(1, 1, 4, 4)), list(1, 1, 5, 4), false}, {but(list(0, 0, 5, 5), list(1, 1, 4, 4)), cell(2, 2), true}, {but(list(0, 0, 5, 5), list(1, 1, 4, 4)), cell(4, 4), false},
		{comb(0, 0, 199, 50), list(1, 1, 51, 2), true}, {comb(0, 0, 199, 50), list(1, 397, 99, 398), true}, {comb(0, 0, 199, 50), list(0, 397, 99, 398), false}, {comb(0, 0, 199, 50), list(50, 396, 99, 397), false}, {comb(0, 0, 199, 50), list(51, 0, 99, 400), true}, {comb(0, 0, 199, 50), comb(50, 0, 199, 50), false}, {comb(0, 0, 199, 50), comb(51, 1, 199, 50), true},
		{wall(0, 200, 0), list(0, 6, 200, 7), true}, {wall(0, 200, 0), list(198, 5, 199, 7), true}, {wall(0, 200, 0), list(199, 5, 200, 7), false},
		{list(0, 0, end, 1), list(0, 1, end, 600), true}, {list(0, 0, end, 2), list(0, 1, end, 600), false}, {list(0, 0, 1, end), list(1, 0, 600, end), true}, {list(0, 0, 2, end), list(1, 0, 600, end), false},
	} {
		for _, l := range [][]api.Lot{{lot(1, 0, c.a), lot(2, 0, c.b)}, {lot(1, 0, c.b), lot(2, 0, c.a)}, {lot(1, 0, c.b), lot(2, 0, c.a), lot(3, 0, cell(700, 700))}} {
			if Right(l) != c.want {
				fail(t, i, l)
			}
		}
	}
}

// P13.1: a land has up to 20000 lots, and it is found if only two of them have a cell in common.
func TestRightMany(t *testing.T) {
	l := block(20001)
	if !Right(l[:20000]) || Right(l) || Right(block(100000)) || !Right(l[:19999]) || !Right(l[1:]) {
		t.Error("20000 lots")
	}
	l = l[:20000]
	for i, c := range []struct {
		at   int
		area []api.Rect
	}{{0, cell(49, 133)}, {19999, cell(0, 0)}, {10000, cell(149, 0)}, {149, cell(0, 1)}, {19999, list(49, 133, 50, 135)}, {19999, list(50, 133, 150, 134)}, {19999, list(49, 133, 51, 134)}, {19999, list(49, 132, 50, 134)}, {700, cell(1000, 1000)}} {
		old := l[c.at].Area
		l[c.at].Area = c.area
		if Right(l) != slices.Contains([]int{4, 5, 6, 8}, i) {
			t.Error(c)
		}
		l[c.at].Area = old
	}
	// Stripes of all lengths that stand and lie, in another order than their Ids.
	l = l[:0]
	for i := range 20000 {
		n := i * 7919 % 20000
		l = append(l, lot(i+1, 0, list(n, 2*n, end-n, 2*n+2)))
	}
	if !Right(l) {
		t.Error("rows")
	}
	l[777].Area[0].Y1++
	if Right(l) {
		t.Error("rows with one that is higher")
	}
}

// P13.2: the lot stands where its Id belongs, and all others stay as they are.
func TestAdd(t *testing.T) {
	for _, land := range [][]api.Lot{nil, {}, row()[:1], row()} {
		for _, id := range []int{1, 2, 9, 11, 15, 29, 31, 45, 60, last} {
			for _, owner := range []int{0, 1, 7, last} {
				for _, a := range [][]api.Rect{cell(6, 0), cell(6, 2), cell(0, 2), cell(3, 4), list(4, 2, 6, 8), but(list(600, 600, 605, 605), cell(602, 602)), wall(800, 1000, 50), cell(end-1, end-1), list(6, 0, end, end)} {
					v := lot(id, owner, a)
					l, e := Add(land, v)
					check(t, v, l, e, without(land, nil, v), api.OK)
				}
			}
		}
	}
	for _, a := range shapes() {
		l, e := Add(nil, lot(1, 0, a))
		check(t, a, l, e, []api.Lot{lot(1, 0, a)}, api.OK)
	}
	// An empty From may be nil or not.
	l, e := Add(nil, api.Lot{Id: 5, Area: cell(0, 0), From: []int{}})
	check(t, "no line", l, e, []api.Lot{lot(5, 0, cell(0, 0))}, api.OK)
}

// notLands has lists that are no lands, each for another reason.
func notLands() [][]api.Lot {
	l := [][]api.Lot{
		append(row(), lot(50, 7, cell(90, 90))), append(row(), lot(49, 7, cell(90, 90))), append(row(), lot(51, 7, cell(0, 0))), append(row(), lot(51, 7, cell(90, 90), 51)), append(row(), lot(51, 7, cell(90, 90), 10)), append(row(), lot(51, 7, cell(90, 90), 50)),
		append(row(), lot(51, 7, cell(90, 90), 3, 2)), append(row(), lot(51, 7, cell(90, 90), 3, 3)), append(row(), row()...), append(row()[1:], row()[0]), {row()[0], row()[0]}, block(20001),
	}
	for _, n := range notLots() {
		l = append(l, []api.Lot{n}, append(row(), n))
	}
	return l
}

// P13.2 to P13.5: a list that is no land is not changed.
func TestNotLands(t *testing.T) {
	for i, land := range notLands() {
		l, e := Add(land, lot(70, 7, cell(80, 80)))
		check(t, i, l, e, nil, api.ErrArg)
		l, e = Split(land, 10, list(0, 0, 1, 9), 70, 71)
		check(t, i, l, e, nil, api.ErrArg)
		l, e = Join(land, []int{10, 20}, 70)
		check(t, i, l, e, nil, api.ErrArg)
		l, e = Transfer(land, 10, 5)
		check(t, i, l, e, nil, api.ErrArg)
		if Right(land) {
			t.Error(i, "is a land")
		}
	}
}

// P13.2: each error by itself.
func TestAddErrors(t *testing.T) {
	for i, v := range notLots() {
		l, e := Add(row(), v)
		check(t, []any{i, v}, l, e, nil, api.ErrArg)
		l, e = Add(nil, v)
		check(t, []any{i, v}, l, e, nil, api.ErrArg)
	}
	for _, from := range [][]int{{1}, {2, 5}, {last}} {
		l, e := Add(row(), lot(60, 7, cell(80, 80), from...))
		check(t, from, l, e, nil, api.ErrArg)
	}
	for _, id := range []int{10, 20, 30, 40, 50, 3, 4, 12, last - 1} {
		l, e := Add(row(), lot(id, 7, cell(80, 80)))
		check(t, id, l, e, nil, api.ErrTwice)
	}
	for _, a := range [][]api.Rect{cell(0, 0), cell(3, 1), cell(5, 1), list(5, 1, 9, 9), list(0, 4, 1, 6), cell(1, 6), list(1, 6, 2, 7), cell(0, 5), cell(4, 8), grid(), list(2, 4, 3, 6), but(list(0, 0, 900, 900), list(2, 0, 6, 9))} {
		l, e := Add(row(), lot(60, 7, a))
		check(t, a, l, e, nil, api.ErrOverlap)
	}
	l, e := Add(block(20000), lot(1, 4, cell(900, 900)))
	check(t, "full", l, e, nil, api.ErrFull)
	for _, id := range []int{1, 31, 30001, 60000, last} {
		v := lot(id, 0, list(49, 133, 900, 134))
		l, e = Add(block(19999), v)
		check(t, id, l, e, without(block(19999), nil, v), api.OK)
		if !Right(l) {
			t.Error("no land", id)
		}
	}
}

// P13.2: of several errors the first one.
func TestAddOrder(t *testing.T) {
	order := []api.Errno{api.ErrArg, api.ErrTwice, api.ErrOverlap, api.ErrFull}
	type some[T any] struct {
		v T
		e api.Errno
	}
	small, large := row(), block(20000)
	large[5].From = []int{3 * last / 4}
	small[2].From = []int{3 * last / 4}
	for _, land := range []some[[]api.Lot]{{small, 0}, {large, api.ErrFull}, {append(row(), lot(1, 7, cell(7, 7))), api.ErrArg}, {block(20001), api.ErrArg}} {
		for _, id := range []some[int]{{100, 0}, {30, api.ErrTwice}, {3 * last / 4, api.ErrTwice}, {0, api.ErrArg}} {
			for _, a := range []some[[]api.Rect]{{cell(800, 800), 0}, {cell(0, 0), api.ErrOverlap}, {list(0, 0, 0, 1), api.ErrArg}} {
				for _, from := range []some[[]int]{{nil, 0}, {[]int{5}, api.ErrArg}} {
					if id.v == 100 && land.v[0].Id == 3 {
						id.v = 101
					}
					l, e := Add(land.v, lot(id.v, 4, a.v, from.v...))
					want := first(order, land.e, id.e, a.e, from.e)
					if e != want || len(l) > 0 != (want == api.OK) {
						fail(t, []any{len(land.v), id, a, from}, e, l, "not", want)
					}
				}
			}
		}
	}
}

// P13.3: the examples of the chapter, and cuts of all kinds: what they leave within and outside.
func TestSplit(t *testing.T) {
	for i, c := range []struct{ area, cut, in, out []api.Rect }{
		{list(0, 0, 4, 2), list(0, 0, 1, 9), list(0, 0, 1, 2), list(1, 0, 4, 2)},
		{list(0, 0, 4, 2), list(0, 0, 1, 2), list(0, 0, 1, 2), list(1, 0, 4, 2)},
		{list(0, 0, 4, 2), list(3, 0, end, end), list(3, 0, 4, 2), list(0, 0, 3, 2)},
		{list(0, 0, 4, 2), list(0, 1, end, 2), list(0, 1, 4, 2), list(0, 0, 4, 1)},
		// One cell, and all but one.
		{list(0, 0, 4, 2), cell(0, 0), cell(0, 0), list(0, 1, 1, 2, 1, 0, 4, 2)},
		{list(0, 0, 4, 2), but(grid(), cell(3, 1)), list(0, 0, 3, 2, 3, 0, 4, 1), cell(3, 1)},
		{list(0, 0, 2, 1), cell(1, 0), cell(1, 0), cell(0, 0)},
		{list(0, 0, 1, 2), list(0, 1, 5, 5), cell(0, 1), cell(0, 0)},
		// A hole, and what is around it.
		{list(2, 2, 5, 5), cell(3, 3), cell(3, 3), list(2, 2, 3, 5, 3, 2, 4, 3, 3, 4, 4, 5, 4, 2, 5, 5)},
		{list(2, 2, 5, 5), but(list(0, 0, 9, 9), cell(3, 3)), list(2, 2, 3, 5, 3, 2, 4, 3, 3, 4, 4, 5, 4, 2, 5, 5), cell(3, 3)},
		// Cuts with several parts, of which only one is within the lot, and that touch the lot at a corner.
		{list(0, 0, 4, 2), list(0, 0, 1, 2, 1, 2, 2, 3, 4, 2, 5, 3), list(0, 0, 1, 2), list(1, 0, 4, 2)},
		{list(10, 10, 20, 12), list(0, 0, 1, 1, 15, 10, 30, 11, 40, 0, 41, 90), list(15, 10, 20, 11), list(10, 10, 15, 12, 15, 11, 20, 12)},
		// Areas that are cut into more, or fewer, rectangles.
		{wall(0, 200, 0), list(0, 0, 100, 9), wall(0, 100, 0), wall(100, 200, 0)},
		{wall(0, 200, 0), list(0, 5, 200, 6)[:0:0], nil, nil},
		{wall(0, 200, 0), list(7, 0, 8, 1), cell(7, 0), but(wall(0, 200, 0), cell(7, 0))},
		{wall(0, 200, 0), list(7, 5, 8, 6), cell(7, 5), but(wall(0, 200, 0), cell(7, 5))},
		{wall(0, 199, 0), cell(6, 3), cell(6, 3), but(wall(0, 199, 0), cell(6, 3))},
		{wall(0, 199, 0), but(grid(), cell(6, 3)), but(wall(0, 199, 0), cell(6, 3)), cell(6, 3)},
		{list(0, 0, 60, 398), comb(0, 0, 199, 40), comb(0, 0, 199, 40), but(list(0, 0, 60, 398), comb(0, 0, 199, 40))},
		{list(0, 0, 60, 397), comb(0, 0, 198, 40), comb(0, 0, 198, 40), but(list(0, 0, 60, 397), comb(0, 0, 198, 40))},
		{grid(), list(0, 0, end, 1), list(0, 0, end, 1), list(0, 1, end, end)},
	} {
		land := []api.Lot{lot(20, 3, c.area, 4, 9)}
		for _, ids := range [][2]int{{1, 2}, {2, 1}, {19, 21}, {21, 19}, {30, 40}, {5, last}, {last, 1}} {
			l, e := Split(land, 20, c.cut, ids[0], ids[1])
			if c.in == nil {
				check(t, i, l, e, nil, api.ErrShape)
				continue
			}
			want := without(nil, nil, lot(ids[0], 3, c.in, 4, 9, 20), lot(ids[1], 3, c.out, 4, 9, 20))
			check(t, i, l, e, want, api.OK)
			if !Right(l) {
				fail(t, i, "no land", l)
			}
		}
	}
}

// P13.3: the other lots stay as they are, and the line of both is ascending wherever the Id of the lot belongs.
func TestSplitLand(t *testing.T) {
	for _, from := range [][]int{{}, {1}, {19}, {21}, {1, 2}, {1, 19, 21, last}, {18, 19}, {21, 22}, {last}} {
		land := row()
		land[1].From = from
		line := append(slices.Clone(from), 20)
		slices.Sort(line)
		for _, ids := range [][2]int{{5, 6}, {6, 5}, {11, 51}, {70, 7}, {35, 36}, {41, 39}} {
			l, e := Split(land, 20, list(5, 0, 9, 9), ids[0], ids[1])
			check(t, from, l, e, without(land, []int{20}, lot(ids[0], 7, list(5, 0, 6, 2), line...), lot(ids[1], 7, list(4, 0, 5, 2), line...)), api.OK)
		}
	}
	land := block(19999)
	land[6].Area = list(6, 0, 7, 1)
	land[19998].Area = list(48, 133, 99, 134)
	l, e := Split(land, 59997, list(60, 0, 70, 500), 1, last)
	if e == api.OK || len(l) > 0 {
		t.Error(e)
	}
	l, e = Split(land, 59997, list(60, 0, 170, 500), 1, last)
	check(t, "19999 lots", l, e, without(land, []int{59997}, lot(1, 4, list(60, 133, 99, 134), 59997), lot(last, 4, list(48, 133, 60, 134), 59997)), api.OK)
}

// P13.3: each error by itself.
func TestSplitErrors(t *testing.T) {
	fails := func(want api.Errno, land []api.Lot, id int, cut []api.Rect, a, b int) {
		t.Helper()
		l, e := Split(land, id, cut, a, b)
		check(t, []any{id, cut, a, b}, l, e, nil, want)
	}
	half := list(2, 0, end, end)
	for _, cut := range notRegions() {
		fails(api.ErrArg, row(), 10, cut, 60, 70)
	}
	for _, n := range notNumbers() {
		fails(api.ErrArg, row(), 10, half, n, 70)
		fails(api.ErrArg, row(), 10, half, 60, n)
		fails(api.ErrArg, row(), 10, half, n, n)
		fails(api.ErrNone, row(), n, half, 60, 70)
		fails(api.ErrNone, nil, n, half, 60, 70)
	}
	for _, n := range []int{1, 5, 60, 10, 3, last} {
		fails(api.ErrArg, row(), 10, half, n, n)
	}
	for _, n := range []int{1, 3, 4, 9, 11, 12, 19, 51, last - 1, last} {
		fails(api.ErrNone, row(), n, half, 60, 70)
	}
	for _, n := range []int{10, 20, 30, 40, 50, 3, 4, 12, last - 1} {
		for _, id := range []int{10, 20} {
			fails(api.ErrTwice, row(), id, list(2, 0, 5, 5), n, 70)
			fails(api.ErrTwice, row(), id, list(2, 0, 5, 5), 60, n)
		}
	}
	fails(api.ErrTwice, row(), 10, half, 10, 20)
	for _, cut := range [][]api.Rect{nil, {}, list(4, 0, 9, 9), list(0, 2, 4, 9), cell(4, 2), grid(), list(0, 0, 4, 2), list(0, 0, 9, 9), posts(200), but(grid(), list(0, 0, 4, 2)), but(grid(), cell(4, 0))} {
		fails(api.ErrShape, row(), 10, cut, 60, 70)
	}
	for _, cut := range [][]api.Rect{list(1, 0, 2, 2), list(1, 0, 3, 9), list(0, 0, 1, 9, 3, 0, 9, 9), list(0, 0, 1, 1, 3, 1, 9, 9), list(0, 0, 1, 1, 1, 1, 4, 2), list(0, 0, 1, 1, 2, 0, 3, 1), list(0, 1, 1, 2, 1, 0, 2, 1)} {
		fails(api.ErrApart, row(), 10, cut, 60, 70)
	}
	fails(api.ErrApart, []api.Lot{lot(10, 1, list(0, 7, 399, 8))}, 10, posts(200), 60, 70)
}

// P13.3: forms of exactly 200 rectangles, and of more, within and outside; n and m are the numbers of rectangles.
func TestSplitLimits(t *testing.T) {
	all := func(a []api.Rect) []api.Rect { return but(grid(), a) }
	for i, c := range []struct {
		area, cut []api.Rect
		n, m      int
		want      api.Errno
	}{
		{wall(0, 200, 0), cell(6, 3), 0, 0, api.ErrFull}, {wall(0, 200, 0), all(cell(6, 3)), 0, 0, api.ErrFull}, {wall(0, 200, 0), cell(6, 0), 1, 200, api.OK}, {wall(0, 200, 0), all(cell(6, 0)), 200, 1, api.OK}, {wall(0, 200, 0), cell(7, 5), 1, 198, api.OK}, {wall(0, 200, 0), all(cell(7, 5)), 198, 1, api.OK},
		{wall(0, 199, 0), cell(6, 3), 1, 200, api.OK}, {wall(0, 199, 0), all(cell(6, 3)), 200, 1, api.OK}, {wall(0, 198, 0), cell(6, 3), 1, 199, api.OK},
		{list(0, 0, 60, 398), comb(0, 0, 199, 40), 200, 200, api.OK}, {list(0, 0, 60, 399), comb(0, 0, 199, 40), 0, 0, api.ErrFull}, {list(0, 0, 60, 397), comb(0, 0, 198, 40), 199, 200, api.OK}, {list(0, 0, 60, 398), comb(0, 1, 198, 40), 0, 0, api.ErrFull},
		// Too many, and apart: within, outside, and in both.
		{wall(0, 200, 0), list(6, 3, 7, 4, 9, 3, 10, 4), 0, 0, api.ErrFull}, {wall(0, 200, 0), all(list(6, 3, 7, 4, 9, 3, 10, 4)), 0, 0, api.ErrFull}, {comb(0, 0, 199, 50), list(2, 0, 3, 900), 0, 0, api.ErrFull}, {comb(0, 0, 199, 50), list(2, 0, 3, 900, 4, 0, 5, 900), 0, 0, api.ErrFull}, {comb(0, 0, 199, 50), all(list(2, 0, 3, 900)), 0, 0, api.ErrFull},
		{list(0, 0, 500, 400), posts(200), 0, 0, api.ErrFull},
		// At most 200, and apart: within, outside, and in both.
		{comb(0, 0, 199, 50), list(0, 0, 1, 900), 0, 0, api.ErrApart}, {comb(0, 0, 199, 50), list(0, 0, 20, 900), 0, 0, api.ErrApart}, {comb(0, 0, 199, 50), list(20, 0, 90, 900), 0, 0, api.ErrApart}, {comb(0, 0, 199, 50), list(0, 0, 20, 1, 0, 2, 20, 3), 0, 0, api.ErrFull}, {list(0, 7, 399, 8), posts(200), 0, 0, api.ErrApart},
	} {
		l, e := Split([]api.Lot{lot(1, 5, c.area)}, 1, c.cut, 2, 3)
		if c.want != api.OK {
			check(t, i, l, e, nil, c.want)
			continue
		}
		in, _ := region.Common(c.area, c.cut)
		check(t, i, l, e, []api.Lot{lot(2, 5, in, 1), lot(3, 5, but(c.area, c.cut), 1)}, api.OK)
		if len(l) == 2 && (len(l[0].Area) != c.n || len(l[1].Area) != c.m) {
			fail(t, i, len(l[0].Area), len(l[1].Area))
		}
	}
}

// P13.3: of several errors the first one.
func TestSplitOrder(t *testing.T) {
	order := []api.Errno{api.ErrArg, api.ErrNone, api.ErrTwice, api.ErrShape, api.ErrFull, api.ErrApart}
	type cut struct {
		id    int
		cells []api.Rect
		e     []api.Errno
	}
	cuts := []cut{
		{3, list(2000, 0, end, end), nil}, {9, cell(3006, 3), []api.Errno{api.ErrFull}}, {9, list(3006, 3, 3007, 4, 3009, 3, 3010, 4), []api.Errno{api.ErrFull, api.ErrApart}}, {3, list(2000, 500, 2001, 501), []api.Errno{api.ErrApart}},
		{3, cell(0, 0), []api.Errno{api.ErrShape}}, {3, grid(), []api.Errno{api.ErrShape}}, {4, grid(), []api.Errno{api.ErrNone}}, {3, list(9, 9, 9, 9), []api.Errno{api.ErrArg}}, {4, list(9, 9, 9, 9), []api.Errno{api.ErrArg, api.ErrNone}},
	}
	for n, found := range map[int][]api.Errno{300: nil, 20000: {api.ErrFull}, 20001: {api.ErrArg}} {
		land := block(n)
		land[0].Area, land[2].Area, land[3].From = list(1000, 500, 3000, 501), wall(3000, 3200, 0), []int{7}
		for _, c := range cuts {
			for _, ids := range [][2]int{{1, 2}, {7, 2}, {1, 7}, {30, 30}, {30, 1}, {1, 0}} {
				e := append(slices.Clone(found), c.e...)
				if ids[0] == ids[1] || ids[1] == 0 {
					e = append(e, api.ErrArg)
				}
				if ids != [2]int{1, 2} && ids[1] != 0 {
					e = append(e, api.ErrTwice)
				}
				l, got := Split(land, c.id, c.cells, ids[0], ids[1])
				if want := first(order, e...); got != want || len(l) > 0 != (want == api.OK) {
					fail(t, []any{n, c, ids}, got, l, "not", want)
				}
			}
		}
	}
}

// P13.4: the examples of the chapter, and areas that fit together in all ways.
func TestJoin(t *testing.T) {
	for i, c := range []struct {
		areas [][]api.Rect
		want  []api.Rect
	}{
		{[][]api.Rect{list(0, 0, 4, 2), list(4, 0, 6, 2)}, list(0, 0, 6, 2)}, {[][]api.Rect{list(1, 0, 4, 2), list(4, 0, 6, 2)}, list(1, 0, 6, 2)}, {[][]api.Rect{list(0, 0, 4, 2), list(0, 2, 4, 9)}, list(0, 0, 4, 9)}, {[][]api.Rect{list(0, 2, 4, 9), list(0, 0, 4, 2)}, list(0, 0, 4, 9)},
		{[][]api.Rect{list(0, 0, 4, 2), list(4, 1, 6, 3)}, list(0, 0, 4, 2, 4, 1, 6, 3)}, {[][]api.Rect{list(0, 0, 4, 2), list(3, 2, 9, 3)}, list(0, 0, 3, 2, 3, 0, 4, 3, 4, 2, 9, 3)}, {[][]api.Rect{list(0, 0, 4, 2), list(4, 2, 9, 3), list(3, 2, 4, 3)}, list(0, 0, 3, 2, 3, 0, 4, 3, 4, 2, 9, 3)},
		// A hole is filled, or stays; a ring is closed; four meet in a corner.
		{[][]api.Rect{but(list(0, 0, 3, 3), cell(1, 1)), cell(1, 1)}, list(0, 0, 3, 3)}, {[][]api.Rect{but(list(0, 0, 3, 3), cell(1, 1)), cell(3, 1)}, list(0, 0, 1, 3, 1, 0, 2, 1, 1, 2, 2, 3, 2, 0, 3, 3, 3, 1, 4, 2)}, {[][]api.Rect{list(0, 0, 1, 3, 1, 0, 2, 1), list(1, 2, 2, 3, 2, 0, 3, 3)}, but(list(0, 0, 3, 3), cell(1, 1))},
		{[][]api.Rect{cell(5, 5), cell(6, 6), cell(5, 6), cell(6, 5)}, list(5, 5, 7, 7)}, {[][]api.Rect{cell(5, 5), cell(6, 6), cell(6, 5)}, list(5, 5, 6, 6, 6, 5, 7, 7)}, {[][]api.Rect{cell(6, 5), cell(5, 6), cell(5, 5)}, list(5, 5, 6, 7, 6, 5, 7, 6)},
		{[][]api.Rect{cell(end-1, end-1), list(0, end-1, end-1, end), list(end-1, 0, end, end-1)}, list(0, end-1, end-1, end, end-1, 0, end, end)}, {[][]api.Rect{cell(0, 0), list(0, 1, 1, end), list(1, 0, end, 1)}, list(0, 0, 1, end, 1, 0, end, 1)}, {[][]api.Rect{cell(3, 7), but(grid(), cell(3, 7))}, grid()}, {[][]api.Rect{list(0, 0, end, 8), list(0, 8, end, end)}, grid()},
		// Exactly 200 rectangles, and more of them in the lots, or in some of them.
		{[][]api.Rect{wall(0, 100, 0), wall(100, 200, 0)}, wall(0, 200, 0)}, {[][]api.Rect{wall(0, 199, 0), wall(199, 200, 0)}, wall(0, 200, 0)}, {[][]api.Rect{comb(0, 0, 198, 50), list(51, 0, 52, 396)}, append(comb(0, 0, 198, 50), list(51, 0, 52, 396)...)},
		{[][]api.Rect{wall(0, 200, 0), but(list(0, 0, 200, 7), wall(0, 200, 0))}, list(0, 0, 200, 7)},
	} {
		var land []api.Lot
		var ids, line []int
		for i, a := range c.areas {
			land = append(land, lot(10*i+10, 6, a, 3, 10*i+11))
			ids = append(ids, 10*i+10)
			line = append(line, 10*i+10, 10*i+11)
		}
		line = append([]int{3}, line...)
		for _, id := range []int{1, 9, 15, 35, 500, last} {
			want := []api.Lot{lot(id, 6, c.want, line...)}
			l, e := Join(land, ids, id)
			check(t, i, l, e, want, api.OK)
			slices.Reverse(ids)
			l, e = Join(land, ids, id)
			check(t, i, l, e, want, api.OK)
		}
	}
}

// P13.4: the other lots stay as they are, and the line of the new one has each number once.
func TestJoinLand(t *testing.T) {
	for _, c := range []struct{ a, b, line []int }{
		{nil, nil, []int{10, 20}}, {[]int{1}, nil, []int{1, 10, 20}}, {nil, []int{1}, []int{1, 10, 20}}, {[]int{1}, []int{1}, []int{1, 10, 20}}, {[]int{1, 2}, []int{2, 3}, []int{1, 2, 3, 10, 20}}, {[]int{3, 5}, []int{1, 4, 6}, []int{1, 3, 4, 5, 6, 10, 20}},
		{[]int{15, 25}, []int{5, 15}, []int{5, 10, 15, 20, 25}}, {[]int{9, 11}, []int{19, 21}, []int{9, 10, 11, 19, 20, 21}}, {[]int{last}, []int{last - 2, last}, []int{10, 20, last - 2, last}}, {[]int{1, 2, 3}, []int{1, 2, 3}, []int{1, 2, 3, 10, 20}},
	} {
		land := row()
		land[0].From, land[1].From = c.a, c.b
		for _, id := range []int{8, 13, 22, 33, 44, 55, last - 3} {
			l, e := Join(land, []int{10, 20}, id)
			check(t, c, l, e, without(land, []int{10, 20}, lot(id, 7, list(0, 0, 6, 2), c.line...)), api.OK)
		}
	}
	land := []api.Lot{lot(3, 7, list(1, 0, 4, 2), 1), lot(4, 7, list(0, 0, 1, 2), 1), lot(20, 7, list(4, 0, 6, 2))}
	l, e := Join(land, []int{3, 20}, 5)
	check(t, "the example", l, e, []api.Lot{land[1], lot(5, 7, list(1, 0, 6, 2), 1, 3, 20)}, api.OK)
}

// P13.4: many lots, of which some have no form within the limits, while all of them have.
func TestJoinMany(t *testing.T) {
	land := block(20000)
	var ids, even []int
	for i := range land[:9000] {
		// First those that do not touch each other.
		if (i%150+i/150)%2 == 0 {
			even = append(even, land[i].Id)
		} else {
			ids = append(ids, land[i].Id)
		}
	}
	l, e := Join(land, even, 1)
	check(t, "half of them", l, e, nil, api.ErrFull)
	ids = append(even, ids...)
	line := slices.Clone(ids)
	slices.Sort(line)
	l, e = Join(land, ids, last)
	check(t, "sixty rows", l, e, append(slices.Clone(land[9000:]), lot(last, 4, list(0, 0, 150, 60), line...)), api.OK)
	l, e = Join(land, ids[:8999], last)
	if e != api.OK || len(l) != 11002 || region.Area(l[11001].Area) != 8999 || len(l[11001].Area) > 3 {
		fail(t, "all but one", e, len(l))
	}
	line = line[:0]
	for _, v := range land {
		line = append(line, v.Id)
	}
	want := lot(1, 4, list(0, 0, 50, 134, 50, 0, 150, 133), line...)
	l, e = Join(land, line, 1)
	check(t, "all", l, e, []api.Lot{want}, api.OK)
	// Long stripes, so that each of many columns has other ones.
	for i := range land {
		land[i].Area = list(i, 2*i, end-i, 2*i+2)
	}
	for n, want := range map[int]api.Errno{2: api.OK, 100: api.OK, 101: api.ErrFull, 20000: api.ErrFull} {
		l, e := Join(land, line[:n], 1)
		if e != want || e == api.OK && len(l[0].Area) != 2*n-1 {
			fail(t, n, e, len(l))
		}
	}
}

// P13.4: each error by itself.
func TestJoinErrors(t *testing.T) {
	fails := func(want api.Errno, land []api.Lot, id int, ids ...int) {
		t.Helper()
		l, e := Join(land, ids, id)
		check(t, []any{len(land), id, ids}, l, e, nil, want)
	}
	for _, ids := range [][]int{nil, {}, {10}, {10, 10}, {10, 20, 10}, {20, 10, 20}, {10, 20, 20}, {10, 10, 20}, {10, 20, 30, 40, 50, 10}} {
		fails(api.ErrArg, row(), 60, ids...)
	}
	fails(api.ErrArg, nil, 60)
	fails(api.ErrArg, nil, 60, 10)
	fails(api.ErrNone, nil, 60, 10, 20)
	for _, n := range notNumbers() {
		fails(api.ErrArg, row(), n, 10, 20)
		fails(api.ErrNone, row(), 60, n, 20)
		fails(api.ErrNone, row(), 60, 10, 20, n)
		fails(api.ErrArg, row(), 60, n, n)
		fails(api.ErrArg, row(), 60, n)
	}
	for _, n := range []int{1, 3, 4, 9, 11, 12, 19, 21, 51, 60, last - 1, last} {
		fails(api.ErrNone, row(), 60, n, 20)
		fails(api.ErrNone, row(), 60, 10, n)
		fails(api.ErrNone, row(), 60, 10, 20, n)
	}
	// The Ids of the lots that go away are taken as well.
	for _, n := range []int{10, 20, 30, 40, 50, 3, 4, 12, last - 1} {
		fails(api.ErrTwice, row(), n, 10, 20)
		fails(api.ErrTwice, row(), n, 20, 10)
	}
	for _, ids := range [][]int{{30, 40}, {40, 30}} {
		fails(api.ErrParty, row(), 60, ids...)
	}
	for i := range 5 {
		var land []api.Lot
		for j := range 5 {
			land = append(land, lot(j+1, 9, cell(j, 0)))
		}
		for _, owner := range []int{0, 8, 10, last} {
			land[i].Owner = owner
			fails(api.ErrParty, land, 60, 1, 2, 3, 4, 5)
			fails(api.ErrParty, land, 60, 3, 5, 1, 2, 4)
		}
	}
	fails(api.ErrApart, row(), 60, 10, 50)
	fails(api.ErrApart, row(), 60, 20, 50)
	fails(api.ErrApart, row(), 60, 10, 20, 50)
	fails(api.ErrApart, []api.Lot{lot(1, 9, cell(3, 3)), lot(2, 9, cell(4, 4))}, 60, 1, 2)
	fails(api.ErrApart, []api.Lot{lot(1, 9, cell(3, 4)), lot(2, 9, cell(4, 3))}, 60, 2, 1)
	fails(api.ErrApart, []api.Lot{lot(1, 9, but(list(0, 0, 5, 5), list(1, 1, 4, 4))), lot(2, 9, cell(2, 2))}, 60, 2, 1)
	for _, n := range []int{201, 202, 300, 400} {
		fails(api.ErrFull, []api.Lot{lot(1, 9, wall(0, 200, 0)), lot(2, 9, wall(200, n, 0))}, 60, 1, 2)
	}
	fails(api.ErrFull, []api.Lot{lot(1, 9, comb(0, 0, 199, 50)), lot(2, 9, list(51, 0, 52, 398))}, 60, 1, 2)
	fails(api.ErrFull, []api.Lot{lot(1, 9, comb(0, 0, 199, 50)), lot(2, 9, moved(comb(0, 0, 199, 50), 51, 0))}, 60, 1, 2)
	fails(api.ErrFull, []api.Lot{lot(1, 9, wall(0, 200, 0)), lot(2, 9, cell(900, 900))}, 60, 1, 2)
}

// P13.4: of several errors the first one.
func TestJoinOrder(t *testing.T) {
	order := []api.Errno{api.ErrArg, api.ErrNone, api.ErrTwice, api.ErrParty, api.ErrFull, api.ErrApart}
	land := []api.Lot{
		lot(1, 1, wall(0, 100, 0)), lot(2, 1, wall(100, 201, 0)), lot(3, 1, wall(0, 100, 20)), lot(4, 1, wall(100, 200, 20)), lot(5, 1, wall(0, 100, 40)), lot(6, 2, wall(100, 201, 40)),
		lot(7, 1, cell(0, 60), 50, 60), lot(8, 2, cell(1, 60)), lot(9, 1, cell(900, 900)), lot(10, 2, cell(900, 902)),
	}
	const party, many, apart, none, arg, twice = api.ErrParty, api.ErrFull, api.ErrApart, api.ErrNone, api.ErrArg, api.ErrTwice
	for _, ids := range []struct {
		l []int
		e []api.Errno
	}{
		{[]int{3, 4}, nil}, {[]int{1, 2}, []api.Errno{many}}, {[]int{1, 9, 2}, []api.Errno{many, apart}}, {[]int{5, 6}, []api.Errno{party, many}}, {[]int{7, 8}, []api.Errno{party}}, {[]int{7, 9}, []api.Errno{apart}}, {[]int{9, 10}, []api.Errno{party, apart}}, {[]int{6, 9, 5}, []api.Errno{party, many, apart}},
		{[]int{3, 77}, []api.Errno{none}}, {[]int{1, 2, 77, 9, 10}, []api.Errno{none, party, many, apart}}, {[]int{77, 78}, []api.Errno{none}}, {[]int{77, 77}, []api.Errno{arg, none}}, {[]int{3}, []api.Errno{arg}}, {[]int{77}, []api.Errno{arg, none}}, {[]int{5, 6, 5, 9}, []api.Errno{arg, party, many, apart}}, {nil, []api.Errno{arg}},
	} {
		for id, e := range map[int]api.Errno{70: 0, last: 0, 3: twice, 9: twice, 50: twice, 60: twice, 0: arg, -3: arg, last + 1: arg} {
			for _, extra := range [][]api.Lot{nil, {lot(11, 1, cell(0, 0))}} {
				found := append(slices.Clone(ids.e), e)
				if extra != nil {
					found = append(found, arg)
				}
				l, got := Join(slices.Concat(land, extra), ids.l, id)
				if want := first(order, found...); got != want || len(l) > 0 != (want == api.OK) {
					fail(t, []any{ids, id, extra}, got, l, "not", want)
				}
			}
		}
	}
}

// P13.5: only the owner of the lot is another one, and it may be the same.
func TestTransfer(t *testing.T) {
	for _, v := range row() {
		for _, owner := range []int{0, 1, 7, 8, v.Id, last - 1, last} {
			l, e := Transfer(row(), v.Id, owner)
			check(t, []any{v.Id, owner}, l, e, without(row(), []int{v.Id}, lot(v.Id, owner, v.Area, v.From...)), api.OK)
		}
		for _, n := range notOwners() {
			for _, id := range []int{v.Id, 60, n} {
				l, e := Transfer(row(), id, n)
				check(t, []any{id, n}, l, e, nil, api.ErrArg)
			}
		}
	}
	for _, n := range append(notNumbers(), 1, 3, 4, 9, 11, 12, 51, 60, last-1, last) {
		for _, owner := range []int{0, 7, last} {
			l, e := Transfer(row(), n, owner)
			check(t, n, l, e, nil, api.ErrNone)
			l, e = Transfer(nil, n, owner)
			check(t, n, l, e, nil, api.ErrNone)
		}
	}
	for _, id := range []int{3, 30000, 60000} {
		l, e := Transfer(block(20000), id, 5)
		check(t, id, l, e, without(block(20000), []int{id}, lot(id, 5, block(20000)[id/3-1].Area)), api.OK)
	}
}

// heap is a list that is no land: Ids in no order, twice, and out of their range, lots that overlap, and areas of all kinds.
func heap() []api.Lot {
	return []api.Lot{
		lot(5, -9, list(10, 10, 12, 12), 5, 5, 0),
		lot(-5, 1, list(20, 10, 22, 12)),
		lot(5, 2, list(11, 11, 40, 40), 8),
		lot(0, 3, list(0, 0, 1, 1, 1, 0, 2, 1)),
		lot(math.MaxInt, 4, list(11, 11, 21, 21), 1),
		lot(7, math.MinInt, nil),
		lot(math.MinInt, 6, list(0, 0, 1, 1, 9, 9, 10, 10)),
		lot(7, 7, cell(30, 10)),
		lot(-5, 8, list(13, 10, 14, 11)),
		lot(3, 9, wall(0, 201, 90)),
		lot(3, 10, list(17, 17, 17, 18), 2, 1),
		lot(last+1, 11, list(-1, -1, 60, 60)),
		lot(2, 12, list(end-2, end-2, end, end)),
	}
}

// P13.6: the first lot with an Id, in any list.
func TestFind(t *testing.T) {
	for _, l := range [][]api.Lot{nil, row(), heap(), block(300), {{}}} {
		for _, id := range append(notNumbers(), 2, 3, 5, 7, -5, 10, 20, 30, 40, 50, 60, 900, last) {
			var want api.Lot
			i := slices.IndexFunc(l, func(v api.Lot) bool { return v.Id == id })
			if i >= 0 {
				want = l[i]
			}
			if got, is := Find(l, id); is != (i >= 0) || !same(got, want) {
				fail(t, id, got, is, want)
			}
		}
	}
	if got, is := Find(heap(), 5); !is || !same(got, lot(5, -9, list(10, 10, 12, 12), 5, 5, 0)) {
		t.Error(got, is)
	}
	if got, is := Find(heap(), 7); !is || !same(got, lot(7, math.MinInt, nil)) {
		t.Error(got, is)
	}
	if got, is := Find(row(), 3); is || !same(got, api.Lot{}) {
		t.Error(got, is)
	}
}

// P13.6: the first lot with a cell, in any list; lists that are no regions have no cells.
func TestAt(t *testing.T) {
	type at struct{ x, y, id int }
	for i, c := range []struct {
		l    []api.Lot
		want []at
	}{
		{row(), []at{{0, 0, 10}, {3, 1, 10}, {4, 0, 20}, {5, 1, 20}, {0, 5, 30}, {1, 5, 30}, {1, 6, 40}, {1, 7, 30}, {2, 7, 30}, {3, 8, 50}, {4, 8, 50}}},
		{heap(), []at{{10, 10, 5}, {11, 11, 5}, {12, 12, 5}, {39, 39, 5}, {20, 10, -5}, {21, 11, -5}, {20, 11, -5}, {11, 20, 5}, {30, 10, 7}, {13, 10, -5}, {0, 0, math.MinInt}, {9, 9, math.MinInt}, {end - 1, end - 1, 2}, {end - 2, end - 1, 2}}},
		{append([]api.Lot{lot(3, 0, grid())}, heap()...), []at{{0, 0, 3}, {10, 10, 3}, {end - 1, end - 1, 3}, {500, 900, 3}}},
		{append(heap(), lot(0, 0, grid())), []at{{10, 10, 5}, {1, 0, 0}, {59, 59, 0}, {17, 17, 5}, {5, 92, 0}, {500, 900, 0}}},
		{nil, nil}, {[]api.Lot{{}}, nil},
	} {
		for _, w := range c.want {
			if id, is := At(c.l, w.x, w.y); id != w.id || !is {
				t.Error(i, w, id, is)
			}
		}
		for _, n := range []int{-1, end, end + 1, 1 << 32, -1 << 32, math.MinInt, math.MaxInt} {
			for _, p := range [][2]int{{n, 0}, {0, n}, {n, n}, {n, 11}, {11, n}, {n, end - 1}, {end - 1, n}} {
				if id, is := At(c.l, p[0], p[1]); id != 0 || is {
					t.Error(i, p, id, is)
				}
			}
		}
	}
	for _, p := range [][2]int{{6, 0}, {0, 2}, {3, 2}, {2, 6 + 2}, {3, 7}, {5, 8}, {4, 9}, {end - 1, end - 1}} {
		if id, is := At(row(), p[0], p[1]); id != 0 || is {
			t.Error(p, id, is)
		}
	}
	for _, p := range [][2]int{{1, 0}, {59, 59}, {5, 92}, {12, 10}, {9, 10}, {end - 3, end - 1}} {
		if id, is := At(heap(), p[0], p[1]); id != 0 || is {
			t.Error(p, id, is)
		}
	}
	if id, is := At(block(20000), 49, 133); id != 60000 || !is {
		t.Error(id)
	}
}

// P13.6: lots at gaps just below, at, and above a distance, in lands and in other lists.
func TestNear(t *testing.T) {
	const most = math.MaxInt
	for i, c := range []struct {
		l    []api.Lot
		id   int
		gaps map[int]int
	}{
		{row(), 10, map[int]int{20: 0, 30: 3, 40: 4, 50: 6}}, {row(), 20, map[int]int{10: 0, 30: 3, 40: 4, 50: 6}}, {row(), 30, map[int]int{10: 3, 20: 3, 40: 0, 50: 0}}, {row(), 40, map[int]int{10: 4, 20: 4, 30: 0, 50: 1}}, {row(), 50, map[int]int{10: 6, 20: 6, 30: 0, 40: 1}},
		{row(), 60, nil}, {row(), 3, nil}, {row(), 0, nil}, {nil, 0, nil}, {nil, 10, nil}, {row()[:1], 10, nil}, {[]api.Lot{{}, {}}, 0, nil},
		{[]api.Lot{lot(1, 0, cell(0, 0)), lot(2, 0, cell(end-1, end-1)), lot(3, 0, cell(end-1, 0)), lot(4, 0, cell(end-2, 1))}, 1, map[int]int{2: end - 2, 3: end - 2, 4: end - 3}},
		// The Area of the first lot with the Id counts, and those of all lots with other Ids, each Id once.
		{heap(), 5, map[int]int{-5: 1, math.MaxInt: 0, math.MinInt: 0, 7: 18, 2: end - 14}},
		{heap(), -5, map[int]int{5: 0, math.MaxInt: 0, math.MinInt: 10, 7: 8, 2: end - 14}},
		{heap(), math.MaxInt, map[int]int{5: 0, -5: 0, math.MinInt: 1, 7: 9, 2: end - 23}},
		{heap(), math.MinInt, map[int]int{5: 0, -5: 3, math.MaxInt: 1, 7: 20, 2: end - 12}},
		{heap(), 2, map[int]int{5: end - 42, -5: end - 14, math.MaxInt: end - 23, math.MinInt: end - 12, 7: end - 13}},
		{heap(), 7, nil}, {heap(), 0, nil}, {heap(), 3, nil}, {heap(), last + 1, nil}, {heap(), 1, nil},
	} {
		distances := []int{-1, -2, -end, math.MinInt, math.MinInt + 1, 0, 1, end, end + 1, 1 << 32, most - 1, most}
		for _, gap := range c.gaps {
			distances = append(distances, gap-1, gap, gap+1)
		}
		for _, d := range distances {
			var want []int
			for id, gap := range c.gaps {
				if gap <= d {
					want = append(want, id)
				}
			}
			slices.Sort(want)
			if got := Near(c.l, c.id, d); !slices.Equal(got, want) {
				t.Error(i, c.id, d, got, "not", want)
			}
		}
	}
	if got := Near(block(20000), 3, 1<<20); len(got) != 19999 || got[0] != 6 || got[19998] != 60000 {
		t.Error(len(got))
	}
	if got := Near(block(20000), 3*(150*60+75), 1); len(got) != 24 || !slices.IsSorted(got) {
		t.Error(got)
	}
}

// slab returns a slab over some rectangles.
func slab(z0, z1 int, area ...api.Rect) api.Slab { return api.Slab{Z0: z0, Z1: z1, Area: area} }

// P13.7: cubes just below and at the top of an easement, over its cells and beside them.
func TestRespect(t *testing.T) {
	tower := []api.Slab{slab(0, 4, list(0, 0, 4, 4)...), slab(4, 9, list(1, 1, 3, 3)...), slab(20, 21, cell(9, 9)...)}
	for i, c := range []struct {
		area []api.Rect
		// The least Top that the tower respects.
		top int
	}{
		{cell(0, 0), 4}, {cell(3, 3), 4}, {cell(1, 1), 9}, {cell(2, 2), 9}, {cell(9, 9), 21}, {cell(3, 0), 4}, {list(2, 2, 4, 4), 9}, {list(0, 0, 1, 4, 3, 0, 4, 4), 4}, {grid(), 21}, {list(0, 0, 9, 9), 9}, {but(list(0, 0, 4, 4), list(1, 1, 3, 3)), 4}, {list(3, 3, 10, 10), 21}, {wall(0, 200, 2), 9}, {list(0, 3, 1, 4, 9, 9, 10, 10), 21},
		{cell(4, 0), math.MinInt}, {cell(0, 4), math.MinInt}, {cell(4, 4), math.MinInt}, {cell(8, 9), math.MinInt}, {cell(10, 9), math.MinInt}, {cell(9, 8), math.MinInt}, {cell(9, 10), math.MinInt}, {nil, math.MinInt}, {list(4, 0, 9, 900), math.MinInt}, {but(grid(), list(0, 0, 10, 10)), math.MinInt}, {wall(0, 200, 10), math.MinInt},
	} {
		for _, top := range []int{math.MinInt, math.MinInt + 1, -4097, -1, 0, 1, 3, 4, 5, 8, 9, 10, 19, 20, 21, 22, 4095, 4096, 4097, math.MaxInt} {
			for _, id := range []int{1, 0, -3, math.MaxInt} {
				other := api.Easement{Lot: 5, Area: grid(), Top: -1}
				e := api.Easement{Lot: id, Area: c.area, Top: top}
				for _, l := range [][]api.Easement{{e}, {e, e}, {other, e}, {e, other}, {{Lot: id, Area: grid(), Top: 21}, e}, {e, {Lot: id, Area: grid(), Top: 21}}} {
					if Respect(l, id, tower) != (top >= c.top) {
						fail(t, []any{i, top, id, l})
					}
				}
				if !Respect([]api.Easement{e}, 5, tower) || Respect([]api.Easement{e, other}, 5, tower) || !Respect([]api.Easement{e}, id, nil) {
					fail(t, []any{i, top, id})
				}
			}
		}
	}
}

// P13.7: solids of all sizes, easements that do not count, and lists that are no solid.
func TestRespectLists(t *testing.T) {
	everything := []api.Slab{slab(0, 4096, grid()...)}
	for top, want := range map[int]bool{math.MinInt: false, -1: false, 0: false, 1: false, 4095: false, 4096: true, 4097: true, math.MaxInt: true} {
		for _, a := range append(shapes(), posts(200), list(0, 0, 1, 1, 1, 1, 2, 2)) {
			if Respect([]api.Easement{{Lot: 9, Area: a, Top: top}}, 9, everything) != want {
				fail(t, top, a)
			}
		}
		for _, a := range append(notRegions(), nil, []api.Rect{}) {
			if !Respect([]api.Easement{{Lot: 9, Area: a, Top: top}}, 9, everything) {
				fail(t, "no cells", top, a)
			}
		}
	}
	// Areas that have more rectangles in common than a region may have.
	if comb := comb(0, 0, 199, 500); Respect([]api.Easement{{Lot: 9, Area: comb, Top: 5}}, 9, []api.Slab{slab(5, 6, wall(0, 200, 0)...)}) || !Respect([]api.Easement{{Lot: 9, Area: comb, Top: 6}}, 9, []api.Slab{slab(5, 6, wall(0, 200, 0)...)}) {
		t.Error("many rectangles")
	}
	var floors []api.Slab
	for i := range 80 {
		floors = append(floors, slab(2*i, 2*i+1, wall(0, 200, i)...))
	}
	for top := range 200 {
		for y, least := range map[int]int{0: 1, 1: 3, 40: 81, 79: 159, 83: 159, 84: 159} {
			if Respect([]api.Easement{{Lot: 9, Area: list(0, 0, 1, y+1), Top: top}}, 9, floors) != (top >= least) {
				t.Error(top, y)
			}
		}
	}
	law := []api.Easement{{Lot: 9, Area: cell(70, 70), Top: 4096}}
	r := cell(0, 0)
	for i, s := range [][]api.Slab{
		{{}}, {slab(5, 5, r...)}, {slab(6, 5, r...)}, {slab(-1, 5, r...)}, {slab(5, 4097, r...)}, {slab(math.MinInt, math.MaxInt, r...)}, {slab(5, 6)}, {slab(5, 6, r...), slab(5, 6, r...)}, {slab(5, 6, r...), slab(6, 7, r...)}, {slab(5, 6, r...), slab(3, 4, r...)}, {slab(5, 7, r...), slab(6, 8, cell(1, 1)...)},
		{slab(5, 6, r...), {}}, {slab(5, 6, append(r, r...)...)}, {slab(5, 6, wall(0, 201, 0)...)}, {slab(5, 6, list(0, 0, 0, 1)...)}, {slab(5, 6, list(-1, 0, 0, 1)...)}, {slab(5, 6, list(0, 0, 1, 1, 1, 0, 2, 1)...)}, append(floors, slab(900, 901, r...)), slices.Repeat(floors, 30),
	} {
		if Respect(law, 9, s) || Respect(law, 8, s) || Respect(nil, 9, s) || Respect([]api.Easement{{}}, 0, s) {
			fail(t, "no solid", i, s)
		}
	}
	for _, s := range [][]api.Slab{nil, {}, everything, floors, {slab(4095, 4096, r...)}} {
		if !Respect(nil, 9, s) || !Respect(law, 9, s) || !Respect(law, 8, s) || !Respect([]api.Easement{{}}, 0, s) {
			fail(t, "a solid", s)
		}
	}
	many := slices.Repeat([]api.Easement{{Lot: 9, Area: grid(), Top: 159}}, 5000)
	if !Respect(many[:300], 9, floors) || Respect(append(many, api.Easement{Lot: 9, Area: cell(7, 84), Top: 158}), 9, floors[79:]) || !Respect(append(many, api.Easement{Lot: 9, Area: cell(6, 84), Top: 158}), 9, floors[79:]) {
		t.Error("many easements")
	}
}
