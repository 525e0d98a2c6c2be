package parcel

import (
	"math"
	"math/rand"
	"slices"
	"testing"

	"greenbelt/api"
	"greenbelt/region"
	"greenbelt/solid"
)

// These tests follow the definitions of the chapter cell by cell, in small windows at the corners of the grid and within it,
// and check lands of all sizes against the laws of the chapter.

// window is a part of the grid, 8 cells wide and high, from (x, y) on.
type window struct{ x, y int }

// set is a set of cells of a window: the bit 8 * i + j says that it has the cell in the column i and the row j.
type set uint64

// windows lie at the corners of the grid and within it.
func windows() []window {
	return []window{{0, 0}, {end - 8, end - 8}, {0, end - 8}, {end - 8, 0}, {1 << 19, 77}}
}

// has reports whether a set has a cell; it has none outside of the window.
func (c set) has(i, j int) bool { return 0 <= i && i < 8 && 0 <= j && j < 8 && c>>(8*i+j)&1 == 1 }

// form is the definition of chapter 6: the slabs in ascending order, and in each of them the intervals.
func (w window) form(c set) []api.Rect {
	var l []api.Rect
	for i, from := 1, 0; i <= 8; i++ {
		if i < 8 && uint8(c>>(8*i)) == uint8(c>>(8*from)) {
			continue
		}
		for j := range 8 {
			k := j
			for c.has(from, k) && !c.has(from, j-1) {
				k++
			}
			if k > j {
				l = append(l, list(w.x+from, w.y+j, w.x+i, w.y+k)...)
			}
		}
		from = i
	}
	return l
}

// of returns the cells of a list of valid rectangles in a window, or around it.
func (w window) of(l []api.Rect) (c set) {
	for bit := range 64 {
		x, y := w.x+bit/8, w.y+bit%8
		if slices.ContainsFunc(l, func(r api.Rect) bool { return r.X0 <= x && x < r.X1 && r.Y0 <= y && y < r.Y1 }) {
			c |= 1 << bit
		}
	}
	return c
}

// near returns a set with all neighbors of its cells in the window.
func (c set) near() set {
	const low = 0x0101010101010101
	return c | c<<8 | c>>8 | c<<1&^low | c>>1&^(low<<7)
}

// parts returns the connected parts.
func (c set) parts() []set {
	var l []set
	for c != 0 {
		part := c & -c
		for next := part.near() & c; next != part; next = part.near() & c {
			part = next
		}
		l = append(l, part)
		c &^= part
	}
	return l
}

// isNo reports whether a number is not from one number to another one.
func isNo(n, from, to int) bool { return n < from || n > to }

// isLot is the definition of a valid lot.
func (w window) isLot(v api.Lot) bool {
	for i, n := range v.From {
		if isNo(n, 1, last) || i > 0 && v.From[i-1] >= n {
			return false
		}
	}
	c := w.of(v.Area)
	return !isNo(v.Id, 1, last) && !isNo(v.Owner, 0, last) && slices.Equal(v.Area, w.form(c)) && len(c.parts()) == 1
}

// isLand is the definition of a land, of lots of a window.
func (w window) isLand(l []api.Lot) bool {
	for i, a := range l {
		if !w.isLot(a) {
			return false
		}
		for j, b := range l {
			if slices.Contains(b.From, a.Id) || i < j && (a.Id >= b.Id || w.of(a.Area)&w.of(b.Area) != 0) {
				return false
			}
		}
	}
	return true
}

// uses reports whether a number is taken.
func uses(l []api.Lot, n int) bool {
	return slices.ContainsFunc(l, func(v api.Lot) bool { return slices.Contains(append(slices.Clone(v.From), v.Id), n) })
}

// place returns the place of the lot with an Id, or -1.
func place(l []api.Lot, id int) int {
	return slices.IndexFunc(l, func(v api.Lot) bool { return v.Id == id })
}

// lineOf is the definition of the line.
func lineOf(l ...api.Lot) []int {
	has := map[int]bool{}
	for _, v := range l {
		has[v.Id] = true
		for _, n := range v.From {
			has[n] = true
		}
	}
	var line []int
	for n := range has {
		line = append(line, n)
	}
	slices.Sort(line)
	return line
}

// add is what Add has to return.
func (w window) add(l []api.Lot, v api.Lot) ([]api.Lot, api.Errno) {
	if !w.isLand(l) || !w.isLot(v) || len(v.From) > 0 {
		return nil, api.ErrArg
	}
	if uses(l, v.Id) {
		return nil, api.ErrTwice
	}
	for _, o := range l {
		if w.of(o.Area)&w.of(v.Area) != 0 {
			return nil, api.ErrOverlap
		}
	}
	return without(l, nil, v), api.OK
}

// split is what Split has to return for a cut with some cells in the window.
func (w window) split(l []api.Lot, id int, cut set, a, b int) ([]api.Lot, api.Errno) {
	if !w.isLand(l) || isNo(a, 1, last) || isNo(b, 1, last) || a == b {
		return nil, api.ErrArg
	}
	i := place(l, id)
	if i < 0 {
		return nil, api.ErrNone
	}
	if uses(l, a) || uses(l, b) {
		return nil, api.ErrTwice
	}
	c := w.of(l[i].Area)
	if c&cut == 0 || c&^cut == 0 {
		return nil, api.ErrShape
	}
	if len((c&cut).parts()) > 1 || len((c&^cut).parts()) > 1 {
		return nil, api.ErrApart
	}
	line := lineOf(l[i])
	return without(l, []int{id}, lot(a, l[i].Owner, w.form(c&cut), line...), lot(b, l[i].Owner, w.form(c&^cut), line...)), api.OK
}

// join is what Join has to return.
func (w window) join(l []api.Lot, ids []int, id int) ([]api.Lot, api.Errno) {
	isTwice := false
	for i, n := range ids {
		isTwice = isTwice || slices.Contains(ids[:i], n)
	}
	if !w.isLand(l) || len(ids) < 2 || isTwice || isNo(id, 1, last) {
		return nil, api.ErrArg
	}
	var gone []api.Lot
	var c set
	for _, n := range ids {
		i := place(l, n)
		if i < 0 {
			return nil, api.ErrNone
		}
		gone = append(gone, l[i])
		c |= w.of(l[i].Area)
	}
	if uses(l, id) {
		return nil, api.ErrTwice
	}
	for _, v := range gone {
		if v.Owner != gone[0].Owner {
			return nil, api.ErrParty
		}
	}
	if len(c.parts()) > 1 {
		return nil, api.ErrApart
	}
	return without(l, ids, lot(id, gone[0].Owner, w.form(c), lineOf(gone...)...)), api.OK
}

// transfer is what Transfer has to return.
func (w window) transfer(l []api.Lot, id, owner int) ([]api.Lot, api.Errno) {
	if !w.isLand(l) || isNo(owner, 0, last) {
		return nil, api.ErrArg
	}
	i := place(l, id)
	if i < 0 {
		return nil, api.ErrNone
	}
	return without(l, []int{id}, lot(id, owner, l[i].Area, l[i].From...)), api.OK
}

// someCells returns a random set of cells of one of several kinds.
func someCells(random *rand.Rand) set {
	c := set(random.Uint64())
	switch random.Intn(6) {
	case 0:
		c &= set(random.Uint64() & random.Uint64())
	case 1:
		c |= set(random.Uint64())
	case 2, 3:
		c = someRect(random)
	case 4:
		c = someRect(random) | someRect(random)
	case 5:
		c = someRect(random) &^ someRect(random)
	}
	return c
}

// someRect returns the cells of a random rectangle of a window.
func someRect(random *rand.Rand) set {
	i, j := random.Intn(8), random.Intn(8)
	wide, high := 1+random.Intn(8-i), 1+random.Intn(8-j)
	return window{}.of(list(i, j, i+wide, j+high))
}

// someNumber returns a number of a lot, or sometimes one that is none, from so few that many are taken.
func someNumber(random *rand.Rand, most int) int {
	switch random.Intn(40) {
	case 0:
		return notNumbers()[random.Intn(len(notNumbers()))]
	case 1:
		return last - random.Intn(2)
	}
	return 1 + random.Intn(most)
}

// someLand returns a land that covers much or little of a window, cut into lots of all shapes.
func (w window) someLand(random *rand.Rand) []api.Lot {
	var l []api.Lot
	free, id := ^set(0), 0
	for range random.Intn(25) {
		for _, c := range (someCells(random) & free).parts() {
			// A window has room for many single cells, which would be most of the lots.
			if c&(c-1) == 0 && random.Intn(3) > 0 {
				continue
			}
			id += 1 + random.Intn(4)
			free &^= c
			l = append(l, lot(id, random.Intn(2), w.form(c)))
			for n := range id + 9 {
				if random.Intn(9) == 0 {
					l[len(l)-1].From = append(l[len(l)-1].From, n+1)
				}
			}
		}
	}
	for i, v := range l {
		l[i].From = slices.DeleteFunc(v.From, func(n int) bool { return place(l, n) >= 0 })
	}
	if n := len(l); n > 0 && random.Intn(4) == 0 {
		l[n-1].Id = last
	}
	return l
}

// P13.1: all lists of three rectangles of a window, and of rectangles and lots of it at random.
func TestOverlapModel(t *testing.T) {
	w := windows()[4]
	var all []set
	for i := range 3 {
		for wide := 1; wide <= 3-i; wide++ {
			for j := range 3 {
				for high := 1; high <= 3-j; high++ {
					all = append(all, window{}.of(list(i, j, i+wide, j+high)))
				}
			}
		}
	}
	for _, a := range all {
		for _, b := range all {
			for _, c := range all {
				l := []api.Lot{lot(1, 0, w.form(a)), lot(2, 0, w.form(b)), lot(3, 0, w.form(c))}
				if want := a&b|a&c|b&c == 0; Right(l) != want {
					t.Fatal(l, want)
				}
			}
		}
	}
	random := rand.New(rand.NewSource(1))
	count := [2]int{}
	for n := range 30000 {
		w := windows()[n%5]
		var l []api.Lot
		var c set
		want := true
		for range 2 + random.Intn(6) {
			next := someCells(random)
			// Mostly a part of what is free, so that lands are not too rare.
			if random.Intn(12) > 0 {
				next &^= c
			}
			if next == 0 {
				continue
			}
			parts := next.parts()
			next = parts[random.Intn(len(parts))]
			want = want && next&c == 0
			c |= next
			l = append(l, lot(len(l)+1, 0, w.form(next)))
		}
		if Right(l) != want {
			t.Fatal(l, want)
		}
		if want {
			count[1]++
		} else {
			count[0]++
		}
	}
	if min(count[0], count[1]) < 3000 {
		t.Error("the lists are too much alike", count)
	}
}

// P13.1: lands in which one number, or one area, is another one.
func TestRightModel(t *testing.T) {
	random := rand.New(rand.NewSource(2))
	for n := range 10000 {
		w := windows()[n%5]
		l := w.someLand(random)
		if !Right(l) || !w.isLand(l) {
			t.Fatal("no land", l)
		}
		if len(l) == 0 {
			continue
		}
		v := &l[random.Intn(len(l))]
		switch random.Intn(5) {
		case 0:
			v.Id = someNumber(random, 40)
		case 1:
			v.Owner = someNumber(random, 5) - 1
		case 2:
			v.Area = w.form(someCells(random))
		case 3:
			v.From = append(v.From, someNumber(random, 40))
		case 4:
			if i := random.Intn(len(v.Area)); random.Intn(2) == 0 {
				v.Area[i] = w.form(someRect(random))[0]
			} else {
				v.Area = slices.Insert(v.Area, i, w.form(someRect(random))[0])
			}
		}
		if want := w.isLand(l); Right(l) != want {
			t.Fatal(l, want)
		}
	}
}

// step makes a random call on a land, checks it against the definitions, and returns the land after it.
func (w window) step(t *testing.T, random *rand.Rand, l []api.Lot, count map[[2]int]int) []api.Lot {
	t.Helper()
	some := func() int {
		if len(l) == 0 || random.Intn(12) == 0 {
			return someNumber(random, 60)
		}
		return l[random.Intn(len(l))].Id
	}
	var got, want []api.Lot
	var e, is api.Errno
	kind := random.Intn(8)
	switch kind {
	case 0, 1:
		parts := append(someCells(random).parts(), someCells(random))
		v := lot(someNumber(random, 5000), random.Intn(3), w.form(parts[random.Intn(len(parts))]))
		got, e = Add(l, v)
		want, is = w.add(l, v)
	case 2, 3, 4:
		id, cut, a, b := some(), someCells(random), someNumber(random, 9000), someNumber(random, 9000)
		// Cuts with straight lines leave one part on each side most of the time.
		if random.Intn(2) == 0 {
			cut = someRect(random)
		}
		got, e = Split(l, id, w.form(cut), a, b)
		want, is = w.split(l, id, cut, a, b)
	case 5, 6:
		ids, id := []int{some(), some()}, someNumber(random, 9000)
		for range random.Intn(3) {
			ids = append(ids, some())
		}
		// Lots that touch, most of the time.
		if near := Near(l, ids[0], 0); len(near) > 0 && random.Intn(3) > 0 {
			ids = []int{ids[0], near[random.Intn(len(near))]}
		}
		got, e = Join(l, ids, id)
		want, is = w.join(l, ids, id)
	case 7:
		id, owner := some(), someNumber(random, 3)-1
		got, e = Transfer(l, id, owner)
		want, is = w.transfer(l, id, owner)
	}
	check(t, []any{kind, l}, got, e, want, is)
	count[[2]int{[]int{0, 0, 1, 1, 1, 2, 2, 3}[kind], int(e)}]++
	if e != api.OK {
		return l
	}
	return got
}

// P13.2 to P13.5: random calls on random lands of windows.
func TestStepModel(t *testing.T) {
	random := rand.New(rand.NewSource(3))
	count := map[[2]int]int{}
	for n := range 12000 {
		w := windows()[n%5]
		w.step(t, random, w.someLand(random), count)
	}
	for kind, errors := range [][]api.Errno{
		{api.OK, api.ErrArg, api.ErrTwice, api.ErrOverlap}, {api.OK, api.ErrArg, api.ErrNone, api.ErrTwice, api.ErrShape, api.ErrApart},
		{api.OK, api.ErrArg, api.ErrNone, api.ErrTwice, api.ErrParty, api.ErrApart}, {api.OK, api.ErrArg, api.ErrNone},
	} {
		for _, e := range errors {
			if count[[2]int{kind, int(e)}] < 5 {
				t.Error("too rare", kind, e, count)
			}
		}
	}
}

// P13.9: histories of lands. Each land after the first one is a land; only Add changes the set of all cells, and only
// Transfer who owns which of those that were there; a number that was ever used is taken, and never used again.
func TestHistory(t *testing.T) {
	random := rand.New(rand.NewSource(4))
	count := map[[2]int]int{}
	for n := range 60 {
		w := windows()[n%5]
		var l []api.Lot
		used := map[int]bool{}
		for range 120 {
			next := w.step(t, random, l, count)
			if !Right(next) || !w.isLand(next) {
				t.Fatal("no land", l, next)
			}
			changes := 0
			for bit := range 64 {
				x, y := w.x+bit/8, w.y+bit%8
				a, was := At(l, x, y)
				b, is := At(next, x, y)
				if was && (!is || a != b && !slices.Contains(next[place(next, b)].From, a)) {
					t.Fatal("lost, or without its line", x, y, l, next)
				}
				if was && l[place(l, a)].Owner != next[place(next, b)].Owner {
					changes |= 1 << bit
				}
			}
			if changes != 0 && (len(l) != len(next) || !slices.ContainsFunc(l, func(v api.Lot) bool { return w.of(v.Area) == set(changes) })) {
				t.Fatal("other owners", l, next)
			}
			for _, v := range next {
				if place(l, v.Id) < 0 && used[v.Id] {
					t.Fatal("used again", v.Id)
				}
				used[v.Id] = true
			}
			for id := range used {
				if !uses(next, id) {
					t.Fatal("not taken any more", id)
				}
			}
			l = next
		}
	}
	for kind := range 4 {
		if count[[2]int{kind, 0}] < 150 {
			t.Error("too rare", kind, count)
		}
	}
}

// P13.6: Find, At and Near in lands of windows, and in lists that are none, cell by cell.
func TestListModel(t *testing.T) {
	random := rand.New(rand.NewSource(5))
	for n := range 500 {
		w := windows()[n%5]
		l := w.someLand(random)
		for range random.Intn(4) {
			l = append(l, lot(random.Intn(30)-3, 0, w.form(someCells(random)), 1))
		}
		random.Shuffle(len(l), func(i, j int) { l[i], l[j] = l[j], l[i] })
		for i := -1; i <= 8; i++ {
			for j := -1; j <= 8; j++ {
				var want api.Lot
				k := slices.IndexFunc(l, func(v api.Lot) bool { return w.of(v.Area).has(i, j) })
				if k >= 0 {
					want = l[k]
				}
				if id, is := At(l, w.x+i, w.y+j); is != (k >= 0) || id != want.Id {
					t.Fatal(l, i, j, id, is)
				}
			}
		}
		for id := -3; id < 40; id++ {
			var want api.Lot
			k := place(l, id)
			if k >= 0 {
				want = l[k]
			}
			if v, is := Find(l, id); is != (k >= 0) || !same(v, want) {
				t.Fatal(l, id, v, is)
			}
			d := random.Intn(9) - 1
			if got := Near(l, id, d); !slices.Equal(got, w.near(l, want, d)) {
				t.Fatal(l, id, d, got)
			}
		}
	}
}

// near is the definition of Near, of the lots near one; a zero lot has no cells.
func (w window) near(l []api.Lot, v api.Lot, d int) []int {
	var ids []int
	a := w.of(v.Area)
	for _, other := range l {
		b := w.of(other.Area)
		gap := 99
		for m := range 64 {
			for n := range 64 {
				if a>>m&1 == 1 && b>>n&1 == 1 {
					gap = min(gap, max(m/8-n/8, n/8-m/8, m%8-n%8, n%8-m%8, 1)-1)
				}
			}
		}
		if other.Id != v.Id && gap < 99 && gap <= d && !slices.Contains(ids, other.Id) {
			ids = append(ids, other.Id)
		}
	}
	slices.Sort(ids)
	return ids
}

// P13.7: random easements and solids of windows, cube by cube.
func TestRespectModel(t *testing.T) {
	random := rand.New(rand.NewSource(6))
	count := [2]int{}
	for n := range 4000 {
		w := windows()[n%5]
		z := []int{0, 1000, 4096 - 8}[n%3]
		// What stands on each height, and the least Top of each cell.
		var at [8]set
		var boxes []api.Box
		for range 1 + random.Intn(4) {
			c, z0 := someRect(random)&(someCells(random)|someCells(random)), random.Intn(8)
			z1 := z0 + 1 + random.Intn(8-z0)
			for _, r := range w.form(c) {
				boxes = append(boxes, api.Box{Base: r, Z0: z + z0, Z1: z + z1})
			}
			for i := z0; i < z1; i++ {
				at[i] |= c
			}
		}
		s, e := solid.Of(boxes)
		if e != api.OK {
			t.Fatal(boxes, e)
		}
		var law []api.Easement
		want := true
		for range 1 + random.Intn(3) {
			c, top, id := someCells(random)&someCells(random), random.Intn(12)-2, 1+random.Intn(5)/4
			law = append(law, api.Easement{Lot: id, Area: w.form(c), Top: z + top})
			for i := max(top, 0); i < 8 && id == 1; i++ {
				want = want && at[i]&c == 0
			}
		}
		if got := Respect(law, 1, s); got != want {
			t.Fatal(law, s, got)
		}
		if want {
			count[1]++
		} else {
			count[0]++
		}
	}
	if min(count[0], count[1]) < 500 {
		t.Error("the results are too much alike", count)
	}
}

// pieces cuts a rectangle into about n at random.
func pieces(random *rand.Rand, r api.Rect, n int) []api.Rect {
	l := []api.Rect{r}
	for range n {
		i := random.Intn(len(l))
		a, b := l[i], l[i]
		if random.Intn(2) == 0 && a.X1-a.X0 > 1 {
			a.X1 = a.X0 + 1 + random.Intn(a.X1-a.X0-1)
			b.X0 = a.X1
		} else if a.Y1-a.Y0 > 1 {
			a.Y1 = a.Y0 + 1 + random.Intn(a.Y1-a.Y0-1)
			b.Y0 = a.Y1
		} else {
			continue
		}
		l[i] = a
		l = append(l, b)
	}
	return l
}

// wide returns a land of lots of all sizes, each made of up to a few pieces of a part of the grid, or of all of it.
func wide(random *rand.Rand, n, most int) []api.Lot {
	r := grid()[0]
	if random.Intn(3) > 0 {
		r.X0, r.Y0 = random.Intn(end-2), random.Intn(end-2)
		r.X1, r.Y1 = min(end, r.X0+2+random.Intn(1<<random.Intn(20))), min(end, r.Y0+2+random.Intn(1<<random.Intn(20)))
	}
	var l []api.Lot
	for left := pieces(random, r, n); len(left) > 0; {
		area := left[:1:1]
		left = left[1:]
		for range random.Intn(most) {
			i := slices.IndexFunc(left, func(r api.Rect) bool {
				a, e := region.Of(append(slices.Clone(area), r))
				return e == api.OK && len(region.Parts(a)) == 1
			})
			if i < 0 {
				break
			}
			area = append(area, left[i])
			left = slices.Delete(left, i, i+1)
		}
		a, _ := region.Of(area)
		l = append(l, lot(2*len(l)+2, random.Intn(2), a))
	}
	return l
}

// P13.1: lands of lots of all sizes, of which one becomes larger, or is moved.
func TestWide(t *testing.T) {
	random := rand.New(rand.NewSource(7))
	count := [2]int{}
	for n := range 400 {
		l := wide(random, 1+random.Intn(60), 1+n%9)
		if !Right(l) {
			t.Fatal("no land", l)
		}
		i := random.Intn(len(l))
		moved, e := region.Shift(l[i].Area, random.Intn(3)-1, random.Intn(3)-1)
		if e != api.OK {
			continue
		}
		l[i].Area = moved
		if random.Intn(2) == 0 {
			l = slices.DeleteFunc(l, func(v api.Lot) bool { return v.Id != l[i].Id && random.Intn(2) == 0 })
		}
		want := true
		for i, a := range l {
			for _, b := range l[:i] {
				c, e := region.Common(a.Area, b.Area)
				want = want && e == api.OK && len(c) == 0
			}
		}
		if Right(l) != want {
			t.Fatal(l, want)
		}
		if want {
			count[1]++
		} else {
			count[0]++
		}
	}
	if min(count[0], count[1]) < 50 {
		t.Error("the lands are too much alike", count)
	}
}

// P13.4: lots of all sizes are joined, all of them and some; their pieces have nothing in common, so layer 6 can put them
// together if they are not too many.
func TestJoinWide(t *testing.T) {
	random := rand.New(rand.NewSource(8))
	count := map[api.Errno]int{}
	for n := range 600 {
		l := wide(random, random.Intn(150), 1+n%5)
		var ids []int
		var all []api.Rect
		for i, v := range l {
			l[i].Owner = 3
			if random.Intn(9) > 0 || n%2 == 0 {
				ids = append(ids, v.Id)
				all = append(all, v.Area...)
			}
		}
		if len(ids) < 2 || len(all) > 400 {
			continue
		}
		area, e := region.Of(all)
		if e == api.OK && len(region.Parts(area)) > 1 {
			e = api.ErrApart
		}
		var want []api.Lot
		if e == api.OK {
			want = without(l, ids, lot(1, 3, area, slices.Clone(ids)...))
		}
		random.Shuffle(len(ids), func(i, j int) { ids[i], ids[j] = ids[j], ids[i] })
		got, is := Join(l, ids, 1)
		check(t, l, got, is, want, e)
		count[e]++
	}
	if count[api.OK] < 100 || count[api.ErrApart] < 20 {
		t.Error("too rare", count)
	}
}

// P13.4: one rectangle is cut into thousands of pieces, and joined again.
func TestJoinPieces(t *testing.T) {
	random := rand.New(rand.NewSource(9))
	for n := range 5 {
		whole := list(0, 0, end, end)
		if n > 1 {
			whole = list(500, 900, 500+200<<n, 900+5000)
		}
		var l []api.Lot
		var ids []int
		for _, r := range pieces(random, whole[0], 4000) {
			l = append(l, lot(len(l)+2, 3, []api.Rect{r}))
			ids = append(ids, len(l)+1)
		}
		got, e := Join(l, ids, 1)
		check(t, n, got, e, []api.Lot{lot(1, 3, whole, ids...)}, api.OK)
		at := random.Intn(len(l))
		rest, is := region.Minus(whole, l[at].Area)
		if is == api.OK && len(region.Parts(rest)) == 1 {
			got, e = Join(l, slices.Delete(slices.Clone(ids), at, at+1), 1)
			check(t, []any{n, at}, got, e, []api.Lot{lot(1, 3, rest, slices.Delete(ids, at, at+1)...), l[at]}, api.OK)
		}
	}
}

// P13.9, P13.10: lots of all sizes are split, and joined again: the area and the owner are the same, and the line has more.
func TestSplitJoin(t *testing.T) {
	random := rand.New(rand.NewSource(10))
	count := map[api.Errno]int{}
	for n := range 3000 {
		w := windows()[n%5]
		l := w.someLand(random)
		if n%3 == 0 {
			l = wide(random, random.Intn(30), 4)
		}
		if len(l) == 0 {
			continue
		}
		v := l[random.Intn(len(l))]
		b, _ := region.Bounds(v.Area)
		cut := grid()
		switch random.Intn(4) {
		case 0:
			cut[0].X1 = b.X0 + random.Intn(b.X1-b.X0) + 1
		case 1:
			cut[0].Y0 = b.Y0 + random.Intn(b.Y1-b.Y0)
		case 2:
			cut = but(cut, cell(b.X0, b.Y1-1))
		case 3:
			cut = list(b.X0, b.Y0, b.X0+1+(b.X1-b.X0)/2, b.Y0+1+(b.Y1-b.Y0)/2)
		}
		a, c := 1000+random.Intn(2), 999+random.Intn(2)*9
		got, e := Split(l, v.Id, cut, a, c)
		count[e]++
		if e != api.OK {
			continue
		}
		first, isFirst := Find(got, a)
		second, isSecond := Find(got, c)
		union, _ := region.Union(first.Area, second.Area)
		common, _ := region.Common(first.Area, second.Area)
		outside, _ := region.Minus(first.Area, cut)
		inside, _ := region.Common(second.Area, cut)
		if !Right(got) || !isFirst || !isSecond || !slices.Equal(union, v.Area) || len(common)+len(outside)+len(inside) > 0 || first.Owner != v.Owner || second.Owner != v.Owner {
			t.Fatal(v, cut, got)
		}
		ids := []int{a, c}
		if random.Intn(2) == 0 {
			slices.Reverse(ids)
		}
		again, e := Join(got, ids, 2000)
		line := append(lineOf(v), min(a, c), max(a, c))
		slices.Sort(line)
		check(t, v, again, e, without(l, []int{v.Id}, lot(2000, v.Owner, v.Area, line...)), api.OK)
	}
	if count[api.OK] < 800 || count[api.ErrApart] < 20 {
		t.Error("too rare", count)
	}
}

// behind returns lots with other ones behind the end of the list, and with other elements behind the ends of their lists.
func behind(l []api.Lot) []api.Lot {
	full := make([]api.Lot, 0, len(l)+2)
	for _, v := range l {
		v.Area = append(slices.Clone(v.Area), list(1, 1, 9, 9, -1, 0, 0, 0)...)[:len(v.Area)]
		v.From = append(slices.Clone(v.From), 77, 2, -9)[:len(v.From)]
		full = append(full, v)
	}
	return append(full, lot(10, 7, cell(0, 0), 5), lot(-1, -1, nil))[:len(l)]
}

// equalBehind reports whether two lists are equal, with what is behind the ends of them and of their lists.
func equalBehind(a, b []api.Lot) bool {
	return slices.EqualFunc(a[:len(a)+2], b[:len(b)+2], same) && slices.EqualFunc(a, b, func(v, w api.Lot) bool {
		return slices.Equal(v.Area[:len(v.Area)+2], w.Area[:len(w.Area)+2]) && slices.Equal(v.From[:len(v.From)+3], w.From[:len(w.From)+3])
	})
}

// spoil overwrites what a list has room for.
func spoil[T any](l []T, v T) {
	l = l[:cap(l)]
	for i := range l {
		l[i] = v
	}
}

// spoilLots overwrites the lists of lots, and then the list of the lots.
func spoilLots(l []api.Lot) {
	for _, v := range l {
		spoil(v.Area, api.Rect{X0: -7, Y0: -7, X1: -7, Y1: -7})
		spoil(v.From, -7)
	}
	spoil(l, lot(-7, -7, nil))
}

// shares reports whether what is written into a list of some lots, or behind its end, changes another one; want has the
// same lots in other memory.
func shares(got, want []api.Lot) bool {
	for i, v := range got {
		spoil(v.Area, api.Rect{X0: -7, Y0: -7, X1: -7, Y1: -7})
		if !slices.EqualFunc(got[i+1:], want[i+1:], same) || !slices.Equal(v.From, want[i].From) {
			return true
		}
		spoil(v.From, -7)
		if !slices.EqualFunc(got[i+1:], want[i+1:], same) {
			return true
		}
	}
	return false
}

// deep returns lots in memory of their own.
func deep(l []api.Lot) []api.Lot {
	var m []api.Lot
	for _, v := range l {
		m = append(m, lot(v.Id, v.Owner, slices.Clone(v.Area), slices.Clone(v.From)...))
	}
	return m
}

// arguments has what is given to a call.
type arguments struct {
	land, add []api.Lot
	cut       []api.Rect
	ids       []int
}

// argumentsOf returns arguments that have other elements behind the ends of all their lists.
func argumentsOf(land []api.Lot, cut []api.Rect) arguments {
	return arguments{
		behind(land),
		behind([]api.Lot{lot(65, 7, list(500, 500, 501, 503, 501, 501, 502, 502))}),
		append(slices.Clone(cut), list(1, 1, 9, 9, -1, 0, 0, 0)...)[:len(cut)],
		[]int{20, 10, 10, 30}[:2],
	}
}

// equal reports whether arguments are equal, with what is behind the ends of their lists.
func (a arguments) equal(b arguments) bool {
	n := len(b.cut) + 2
	return equalBehind(a.land, b.land) && equalBehind(a.add, b.add) && slices.Equal(a.cut[:n], b.cut[:n]) && slices.Equal(a.ids[:4], b.ids[:4])
}

// calls returns calls of all functions that return lots.
func calls() []func(a arguments) []api.Lot {
	lots := func(l []api.Lot, e api.Errno) []api.Lot { return l }
	return []func(a arguments) []api.Lot{
		func(a arguments) []api.Lot { return lots(Add(a.land, a.add[0])) },
		func(a arguments) []api.Lot { return lots(Split(a.land, 20, a.cut, 70, 71)) },
		func(a arguments) []api.Lot { return lots(Join(a.land, a.ids, 70)) },
		func(a arguments) []api.Lot { return lots(Transfer(a.land, 30, 5)) },
		func(a arguments) []api.Lot {
			v, _ := Find(a.land, 30)
			return []api.Lot{v}
		},
	}
}

// P13.8: nothing is changed, nothing behind the end of a list is looked at, and no two lists share memory.
func TestPure(t *testing.T) {
	land := row()
	land[0].From, land[1].From = []int{2, 5, 6}, []int{2, 5}
	lands := [][]api.Lot{land, row(), heap(), append(row(), lot(60, 7, nil)), {lot(20, 0, list(4, 0, 6, 2), 19, 21), lot(30, 0, wall(100, 300, 0), 2, 3)}}
	for i, land := range lands {
		for j, call := range calls() {
			for _, cut := range [][]api.Rect{list(0, 0, 5, 9), list(0, 1, 9, 9), cell(4, 0), nil} {
				exact := argumentsOf(land, cut)
				want := deep(call(arguments{deep(land), deep(exact.add), slices.Clone(cut), slices.Clone(exact.ids)}))
				a := argumentsOf(land, cut)
				got := call(a)
				if !slices.EqualFunc(got, want, same) || !a.equal(exact) {
					fail(t, []any{i, j}, got, want, a)
				}
				if shares(got, want) {
					fail(t, []any{i, j}, "results share memory", got, want)
				}
				spoilLots(got)
				if !a.equal(exact) {
					fail(t, []any{i, j}, "arguments share memory with results", a)
				}
				got = call(a)
				spoilLots(a.land)
				spoilLots(a.add)
				spoil(a.cut, api.Rect{})
				spoil(a.ids, 0)
				if !slices.EqualFunc(got, want, same) {
					fail(t, []any{i, j}, "results share memory with arguments", got, want)
				}
			}
		}
	}
}

// P13.8: the functions that return no lots change nothing either, and look at nothing behind the end of a list.
func TestPureOthers(t *testing.T) {
	for i, land := range append(notLands(), row(), heap(), nil) {
		l := behind(land)
		if Right(l) != Right(land) || !equalBehind(l, behind(land)) {
			fail(t, i, "Right")
		}
		if len(land) > 100 {
			continue
		}
		for _, id := range []int{5, 10, 20, 30, 77, -1, -9} {
			for _, d := range []int{0, 3, math.MaxInt} {
				got := Near(l, id, d)
				want := slices.Clone(got)
				if !slices.Equal(got, Near(land, id, d)) || !equalBehind(l, behind(land)) {
					fail(t, i, "Near", id, d)
				}
				spoil(got, -7)
				if !equalBehind(l, behind(land)) || !slices.Equal(Near(l, id, d), want) {
					fail(t, i, "Near", id, d)
				}
			}
			a, is := At(l, id, 1)
			if b, was := At(land, id, 1); a != b || is != was || !equalBehind(l, behind(land)) {
				fail(t, i, "At", id)
			}
		}
	}
	area, floor := append(list(0, 0, 1, 1, 3, 3, 4, 4), list(0, 0, 9, 9)...)[:2], append(list(5, 5, 6, 6), list(0, 0, 9, 9)...)[:1]
	law := []api.Easement{{Lot: 1, Area: area, Top: 3}, {Lot: 1, Area: grid(), Top: 0}}[:1]
	s := []api.Slab{{Z0: 3, Z1: 4, Area: floor}, {Z0: 7, Z1: 8, Area: grid()}}[:1]
	if !Respect(law, 1, s) || !slices.Equal(area[:3], list(0, 0, 1, 1, 3, 3, 4, 4, 0, 0, 9, 9)) || !slices.Equal(floor[:2], list(5, 5, 6, 6, 0, 0, 9, 9)) || law[:2][1].Lot != 1 || s[:2][1].Z0 != 7 || s[0].Z0 != 3 || law[0].Top != 3 {
		t.Error("Respect", law, s)
	}
}
