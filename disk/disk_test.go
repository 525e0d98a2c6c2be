package disk

import (
	"math"
	"slices"
	"strings"
	"testing"

	"greenbelt/api"
)

const limit = 1 << 24

// zeros returns bytes 0.
func zeros(n int) string { return strings.Repeat("\x00", n) }

// check fails the test unless a call returned what it has to return.
func check(t *testing.T, what string, got, want api.Errno) {
	t.Helper()
	if got != want {
		t.Errorf("%s: error %d, not %d", what, got, want)
	}
}

// content returns all of a file of a machine that is up.
func content(t *testing.T, d *Disk, f int) string {
	t.Helper()
	s, e := d.Read(f, 0, math.MaxInt)
	if e != api.OK || len(s) != d.Size(f) {
		t.Fatalf("file %d: error %d, %d bytes of %d", f, e, len(s), d.Size(f))
	}
	return s
}

// checkFile fails the test unless a file has these bytes.
func checkFile(t *testing.T, what string, d *Disk, f int, want string) {
	t.Helper()
	if got := content(t, d, f); got != want {
		t.Errorf("%s: file %d is %q, not %q", what, f, got, want)
	}
}

// crashed returns a copy of a disk that has crashed and was started again.
func crashed(d *Disk, keep ...int) *Disk {
	c := d.Copy()
	c.Crash(keep)
	c.Start()
	return c
}

// with returns a disk whose file 0 has these bytes, all of them synced.
func with(t *testing.T, s string) *Disk {
	t.Helper()
	d := New()
	check(t, "Write", d.Write(0, 0, s), api.OK)
	check(t, "Sync", d.Sync(0), api.OK)
	return d
}

// P2.1: a new disk is up, and has nothing.
func TestNew(t *testing.T) {
	d := New()
	if d.Down() {
		t.Error("a new machine is down")
	}
	for f := range 16 {
		checkFile(t, "New", d, f, "")
		checkFile(t, "New, Crash", crashed(d, 1), f, "")
	}
	check(t, "nothing is lost or scheduled", d.Sync(0), api.OK)
	check(t, "New", New().Write(15, 0, "a"), api.OK)
	checkFile(t, "disks are apart", d, 15, "")
}

// P2.1: Size is the size of the file, also when the machine is down, and 0 for what is no file number.
func TestSize(t *testing.T) {
	d := with(t, "abc")
	d.Write(15, 9, "z")
	for _, f := range []int{-1, 16, 17, math.MinInt, math.MaxInt} {
		if n := d.Size(f); n != 0 {
			t.Errorf("Size(%d) = %d", f, n)
		}
	}
	if d.Size(0) != 3 || d.Size(1) != 0 || d.Size(15) != 10 {
		t.Error("sizes", d.Size(0), d.Size(1), d.Size(15))
	}
	d.Crash(nil)
	if d.Size(0) != 3 || d.Size(15) != 0 || d.Size(16) != 0 {
		t.Error("sizes when the machine is down", d.Size(0), d.Size(15))
	}
}

// P2.1: what is done to a disk is not seen in its copy, and the other way round.
func TestCopy(t *testing.T) {
	d := with(t, "abc")
	d.Write(0, 1, "X")
	c := d.Copy()
	check(t, "Write", c.Write(0, 0, "Y"), api.OK)
	check(t, "Write", c.Write(0, 70, "tail"), api.OK)
	check(t, "Sync", c.Sync(0), api.OK)
	checkFile(t, "Write to the copy", d, 0, "aXc")
	checkFile(t, "Sync of the copy", crashed(d, 0), 0, "abc")
	checkFile(t, "pending sectors are copied", crashed(d.Copy(), 1), 0, "aXc")
	c = d.Copy()
	check(t, "Sync", d.Sync(0), api.OK)
	checkFile(t, "Sync of the original", crashed(c, 0), 0, "abc")
	checkFile(t, "Sync of the original", crashed(c, 1), 0, "aXc")
	check(t, "Truncate", d.Truncate(0, 0), api.OK)
	d.Crash(nil)
	checkFile(t, "Truncate and Crash of the original", c, 0, "aXc")
	if c.Down() || !d.Copy().Down() {
		t.Error("whether the machine is down")
	}
}

// sectors returns sectors that begin with the bytes of a string, and go on with a.
func sectors(heads string) string {
	s := ""
	for _, h := range heads {
		s += string(h) + strings.Repeat("a", 63)
	}
	return s
}

// P2.1: a disk and its copy have lists of their own, to which both add, and from which a sync takes.
func TestCopyPending(t *testing.T) {
	d := with(t, sectors("aaaaaaaa"))
	for n := range 5 {
		d.Write(0, 64*n, "X")
		d.Write(1, 64*n, "Y")
	}
	c := d.Copy()
	d.Write(0, 320, "d")
	c.Write(0, 384, "c")
	check(t, "Sync", d.Sync(1), api.OK)
	checkFile(t, "the original", crashed(d, 1), 0, sectors("XXXXXdaa"))
	checkFile(t, "the copy", crashed(c, 1), 0, sectors("XXXXXaca"))
	// In the list of the copy the sectors of the two files alternate.
	checkFile(t, "the copy", crashed(c, 0, 1), 0, sectors("aaaaaaaa"))
	checkFile(t, "the copy", crashed(c, 0, 1), 1, content(t, c, 1))
}

// P2.1: a copy has what Lose and Arm have set, of its own.
func TestCopyLoseArm(t *testing.T) {
	d := with(t, "a")
	d.Lose(1)
	d.Arm(3, []int{1})
	c := d.Copy()
	for _, x := range []*Disk{c, d} {
		check(t, "Sync", x.Sync(0), api.ErrLost)
		check(t, "Write", x.Write(0, 0, "b"), api.OK)
		check(t, "Sync", x.Sync(0), api.ErrDown)
		x.Start()
		checkFile(t, "Arm", x, 0, "b")
	}
	d.Arm(1, nil)
	c = d.Copy()
	c.Arm(0, nil)
	check(t, "the copy's schedule is another one", d.Sync(0), api.ErrDown)
	check(t, "the copy's schedule is another one", c.Sync(0), api.OK)
}

// P2.2: of the errors that apply the first one is returned: ErrDown, then ErrArg.
func TestErrorOrder(t *testing.T) {
	d := with(t, "a")
	d.Lose(1)
	for _, f := range []int{-1, 16, math.MinInt, math.MaxInt} {
		_, e := d.Read(f, 0, 1)
		check(t, "Read", e, api.ErrArg)
		check(t, "Write", d.Write(f, limit, "a"), api.ErrArg)
		check(t, "Write of nothing", d.Write(f, 0, ""), api.ErrArg)
		check(t, "Sync", d.Sync(f), api.ErrArg)
		check(t, "Truncate", d.Truncate(f, 0), api.ErrArg)
	}
	check(t, "one sync is still lost", d.Sync(0), api.ErrLost)
	d.Lose(1)
	d.Crash(nil)
	for _, f := range []int{0, -1, 16} {
		for _, at := range []int{0, -1, limit + 1} {
			s, e := d.Read(f, at, 1)
			check(t, "Read when down", e, api.ErrDown)
			if s != "" {
				t.Errorf("Read when down: %q", s)
			}
			check(t, "Write when down", d.Write(f, at, "a"), api.ErrDown)
			check(t, "Truncate when down", d.Truncate(f, at), api.ErrDown)
			check(t, "Sync when down", d.Sync(f), api.ErrDown)
		}
	}
	d.Start()
	check(t, "a sync when down is not lost", d.Sync(0), api.ErrLost)
	checkFile(t, "calls when down", d, 0, "a")
}

// P2.2: Read returns what exists of the bytes that are asked for.
func TestRead(t *testing.T) {
	d := with(t, "abcdef")
	for _, c := range []struct {
		at, size int
		want     string
		e        api.Errno
	}{
		{0, 6, "abcdef", api.OK},
		{0, 7, "abcdef", api.OK},
		{0, 0, "", api.OK},
		{2, 3, "cde", api.OK},
		{5, 1, "f", api.OK},
		{5, 2, "f", api.OK},
		{6, 0, "", api.OK},
		{6, 1, "", api.OK},
		{7, 1, "", api.OK},
		{math.MaxInt, 1, "", api.OK},
		{math.MaxInt, math.MaxInt, "", api.OK},
		{4, math.MaxInt, "ef", api.OK},
		{-1, 1, "", api.ErrArg},
		{-1, -1, "", api.ErrArg},
		{0, -1, "", api.ErrArg},
		{9, -1, "", api.ErrArg},
		{math.MinInt, 1, "", api.ErrArg},
		{0, math.MinInt, "", api.ErrArg},
	} {
		if s, e := d.Read(0, c.at, c.size); s != c.want || e != c.e {
			t.Errorf("Read(0, %d, %d) = %q, %d", c.at, c.size, s, e)
		}
	}
	if s, e := d.Read(1, 0, 5); s != "" || e != api.OK {
		t.Errorf("Read of an empty file = %q, %d", s, e)
	}
}

// P2.2: Write puts bytes at an offset, and bytes 0 before them if the file ends earlier.
func TestWrite(t *testing.T) {
	d := New()
	for _, c := range []struct {
		at      int
		s, want string
	}{
		{0, "", ""},
		{5, "", ""},
		{2, "ab", "\x00\x00ab"},
		{1, "X", "\x00Xab"},
		{3, "cd", "\x00Xacd"},
		{5, "e", "\x00Xacde"},
		{7, "\x00\xff", "\x00Xacde\x00\x00\xff"},
		{20, "", "\x00Xacde\x00\x00\xff"},
		{0, "123456789", "123456789"},
		{3, "", "123456789"},
	} {
		check(t, "Write", d.Write(3, c.at, c.s), api.OK)
		checkFile(t, "Write", d, 3, c.want)
	}
	for f := range 16 {
		if f != 3 && d.Size(f) != 0 {
			t.Errorf("file %d was written", f)
		}
	}
}

// P2.2: bytes that were cut off do not come back when a later write lies behind the end.
func TestWriteAfterTruncate(t *testing.T) {
	d := with(t, "abcdef")
	check(t, "Truncate", d.Truncate(0, 1), api.OK)
	check(t, "Write", d.Write(0, 4, "x"), api.OK)
	checkFile(t, "Write", d, 0, "a\x00\x00\x00x")
	check(t, "Sync", d.Sync(0), api.OK)
	checkFile(t, "Sync", crashed(d), 0, "a\x00\x00\x00x")
}

// P2.2: Write returns ErrArg and ErrFull, in this order, and then changes nothing.
func TestWriteErrors(t *testing.T) {
	d := with(t, "abc")
	for _, c := range []struct {
		at int
		s  string
		e  api.Errno
	}{
		{-1, "", api.ErrArg},
		{-1, "x", api.ErrArg},
		{math.MinInt, "x", api.ErrArg},
		{-1, strings.Repeat("x", limit+2), api.ErrArg},
		{0, strings.Repeat("x", limit+1), api.ErrFull},
		{limit, "x", api.ErrFull},
		{limit - 1, "xy", api.ErrFull},
		{limit + 1, "", api.ErrFull},
		{math.MaxInt, "", api.ErrFull},
		{math.MaxInt, "x", api.ErrFull},
		{math.MaxInt - 1, "xyz", api.ErrFull},
		{limit, "", api.OK},
	} {
		check(t, "Write", d.Write(0, c.at, c.s), c.e)
		checkFile(t, "Write", d, 0, "abc")
		checkFile(t, "Write, Crash", crashed(d, 1), 0, "abc")
	}
	check(t, "the last byte", d.Write(0, limit-1, "x"), api.OK)
	if d.Size(0) != limit {
		t.Errorf("Size(0) = %d", d.Size(0))
	}
	if s, e := d.Read(0, limit-2, 9); s != "\x00x" || e != api.OK {
		t.Errorf("Read = %q, %d", s, e)
	}
	check(t, "a whole file", d.Write(1, 0, strings.Repeat("x", limit)), api.OK)
	check(t, "Sync", d.Sync(1), api.OK)
	if d = crashed(d); d.Size(0) != 3 || d.Size(1) != limit {
		t.Error("after a crash", d.Size(0), d.Size(1))
	}
}

// P2.2: the sectors that a write touches become pending, in ascending order, each of them once.
func TestPending(t *testing.T) {
	d := with(t, strings.Repeat("a", 256))
	d.Write(0, 130, "2")
	d.Write(0, 0, "")
	d.Write(0, 64, "")
	d.Write(0, 63, "01")
	d.Write(0, 64, strings.Repeat("b", 128))
	d.Write(0, 192, "3")
	// The list is now 2, 0, 1, 3.
	for i, n := range []int{2, 0, 1, 3} {
		keep := []int{0, 0, 0, 0, 1}
		keep[i] = 1
		got := content(t, crashed(d, keep...), 0)
		for m := range 4 {
			same := got[64*m:64*m+64] == strings.Repeat("a", 64)
			if same == (m == n) {
				t.Errorf("the sector with the index %d in the list: sector %d is %q", i, m, got[64*m:64*m+64])
			}
		}
	}
}

// P2.2: bytes 0 before what is written are pending only where they share a sector with it.
func TestPendingGap(t *testing.T) {
	d := with(t, "abc")
	d.Write(0, 200, "z")
	checkFile(t, "nothing survives", crashed(d, 0), 0, "abc")
	checkFile(t, "the sector 3 survives", crashed(d, 1, 0), 0, "abc"+zeros(197)+"z")
	d = with(t, strings.Repeat("a", 130))
	d.Write(0, 140, "z")
	d.Write(0, 64, "y")
	checkFile(t, "the zeros of sector 2", crashed(d, 1, 0), 0, strings.Repeat("a", 130)+zeros(10)+"z")
	checkFile(t, "only sector 1", crashed(d, 0, 1), 0, strings.Repeat("a", 64)+"y"+strings.Repeat("a", 65))
}

// P2.2: Sync makes the file durable, and nothing of it is pending any more; other files stay pending, in their order.
func TestSync(t *testing.T) {
	d := New()
	d.Write(1, 0, "one")
	d.Write(0, 300, "zero")
	d.Write(2, 64, "two")
	d.Write(1, 100, "more")
	check(t, "Sync", d.Sync(0), api.OK)
	zero := zeros(300) + "zero"
	for i, want := range [][2]string{{"one" + zeros(61), ""}, {"", zeros(64) + "two"}, {zeros(100) + "more", ""}} {
		keep := []int{0, 0, 0, 1}
		keep[i] = 1
		c := crashed(d, keep...)
		checkFile(t, "synced", c, 0, zero)
		checkFile(t, "not synced", c, 1, want[0])
		checkFile(t, "not synced", c, 2, want[1])
	}
	d.Write(0, 0, "again")
	checkFile(t, "written since", crashed(d, 0, 0, 0, 1), 0, "again"+zero[5:])
	checkFile(t, "written since", crashed(d, 1, 1, 1, 0), 0, zero)
	check(t, "Sync of an empty file", d.Sync(15), api.OK)
}

// P2.2: Truncate cuts the file and its durable part, wholly and at once.
func TestTruncate(t *testing.T) {
	d := with(t, strings.Repeat("a", 200))
	d.Write(0, 60, strings.Repeat("b", 100))
	d.Write(1, 0, "other")
	for _, size := range []int{-1, 201, math.MinInt, math.MaxInt} {
		check(t, "Truncate", d.Truncate(0, size), api.ErrArg)
		checkFile(t, "Truncate", crashed(d, 0), 0, strings.Repeat("a", 200))
	}
	check(t, "Truncate of an empty file", d.Truncate(2, 1), api.ErrArg)
	check(t, "Truncate of an empty file", d.Truncate(2, 0), api.OK)
	for _, size := range []int{200, 130, 70, 64, 1, 0} {
		want := (strings.Repeat("a", 60) + strings.Repeat("b", 100) + strings.Repeat("a", 40))[:size]
		check(t, "Truncate", d.Truncate(0, size), api.OK)
		checkFile(t, "Truncate", d, 0, want)
		checkFile(t, "Truncate, Crash", crashed(d), 0, want)
		// The sectors of file 0 are not in the list any more, so the only one is that of file 1.
		checkFile(t, "the other file", crashed(d, 1, 0, 0, 0), 1, "other")
		checkFile(t, "the other file", crashed(d, 0, 1, 1, 1), 1, "")
	}
}

// P2.2: Truncate is no Sync: it is not lost, and what it leaves is durable although it was not synced.
func TestTruncateNotLost(t *testing.T) {
	d := New()
	d.Write(0, 0, "abc")
	d.Lose(1)
	check(t, "Truncate", d.Truncate(0, 2), api.OK)
	checkFile(t, "Truncate", crashed(d), 0, "ab")
	check(t, "Sync", d.Sync(0), api.ErrLost)
}

// P2.3: lost syncs change nothing, and are counted down; Lose replaces their number.
func TestLose(t *testing.T) {
	d := with(t, "abc")
	d.Write(0, 0, "X")
	d.Lose(2)
	check(t, "Sync", d.Sync(0), api.ErrLost)
	checkFile(t, "a lost sync", crashed(d, 0), 0, "abc")
	checkFile(t, "what was written stays pending", crashed(d, 1), 0, "Xbc")
	check(t, "Sync of another file", d.Sync(1), api.ErrLost)
	check(t, "Sync", d.Sync(0), api.OK)
	checkFile(t, "Sync", crashed(d, 0), 0, "Xbc")
	for _, n := range []int{0, -1, math.MinInt} {
		d.Lose(5)
		d.Lose(n)
		check(t, "Sync", d.Sync(0), api.OK)
	}
	d.Lose(1)
	d.Lose(1)
	d.Crash(nil)
	d.Start()
	check(t, "lost syncs stay due", d.Sync(0), api.ErrLost)
	check(t, "the second number replaced the first one", d.Sync(0), api.OK)
	d.Lose(math.MaxInt)
	check(t, "Sync", d.Sync(0), api.ErrLost)
	d.Crash(nil)
	d.Lose(0)
	d.Start()
	check(t, "Lose when down", d.Sync(0), api.OK)
}

// P2.3: the examples of the chapter, and which elements of keep are taken.
func TestCrash(t *testing.T) {
	x := strings.Repeat("x", 64)
	for _, c := range []struct {
		before, s string
		at        int
		keep      []int
		want      string
	}{
		{"abc", "XY", 1, []int{1}, "aXY"},
		{"abc", "XY", 1, []int{0}, "abc"},
		{"abc", "XY", 1, nil, "abc"},
		{"abc", "XY", 1, []int{}, "abc"},
		{"", "abcd", 62, []int{0, 1}, zeros(64) + "cd"},
		{"", "abcd", 62, []int{1, 0}, zeros(62) + "ab"},
		{"", x + x + x + "xxxxxxxx", 0, []int{1, 0}, x + zeros(64) + x},
		{"", x + x + x + "xxxxxxxx", 0, []int{0, 0, 3}, zeros(128) + x},
		{"", x + x + x, 0, []int{-1, 2, -3}, x + zeros(64) + x},
		{"", x + x + x, 0, []int{math.MaxInt, math.MinInt, -2}, x},
		{"", x + x, 0, []int{0, 0, 1}, ""},
		{"", x + x, 0, []int{1, 1, 0}, x + x},
	} {
		d := New()
		check(t, "Write", d.Write(0, 0, c.before), api.OK)
		check(t, "Sync", d.Sync(0), api.OK)
		check(t, "Write", d.Write(0, c.at, c.s), api.OK)
		d.Crash(c.keep)
		if !d.Down() || d.Size(0) != len(c.want) {
			t.Errorf("Crash(%v): down is %v, %d bytes", c.keep, d.Down(), d.Size(0))
		}
		d.Start()
		checkFile(t, "Crash", d, 0, c.want)
		checkFile(t, "nothing is pending after a crash", crashed(d, 1), 0, c.want)
		checkFile(t, "nothing is pending after a crash", crashed(d, 0), 0, c.want)
	}
}

// P2.3: the bytes that survive are those that the file had at the crash, also those of later writes and of gaps.
func TestCrashLatest(t *testing.T) {
	d := with(t, strings.Repeat("a", 64))
	d.Write(0, 0, "1")
	d.Write(1, 0, "other")
	d.Write(0, 1, "2")
	d.Write(0, 66, "3")
	checkFile(t, "sector 0", crashed(d, 1, 0, 0), 0, "12"+strings.Repeat("a", 62))
	checkFile(t, "sector 1", crashed(d, 0, 0, 1), 0, strings.Repeat("a", 64)+"\x00\x003")
	checkFile(t, "file 1", crashed(d, 0, 1, 0), 1, "other")
}

// P2.3: a crash of a machine that is down does nothing, and Start brings it up.
func TestCrashTwice(t *testing.T) {
	d := with(t, "abc")
	d.Write(0, 0, "X")
	d.Crash([]int{0})
	d.Crash([]int{1})
	if !d.Down() {
		t.Error("the machine is up")
	}
	d.Arm(1, nil)
	d.Crash(nil)
	d.Start()
	d.Start()
	if d.Down() {
		t.Error("the machine is down")
	}
	checkFile(t, "Crash", d, 0, "abc")
	check(t, "a crash that does nothing cancels no schedule", d.Write(0, 0, "Y"), api.ErrDown)
	d.Start()
	checkFile(t, "Crash", d, 0, "abc")
}

// P2.3: what is written after a crash does not come into the durable part by itself.
func TestWriteAfterCrash(t *testing.T) {
	d := crashed(with(t, "abc"), 1)
	check(t, "Write", d.Write(0, 0, "X"), api.OK)
	checkFile(t, "Write", d, 0, "Xbc")
	checkFile(t, "nothing survives", crashed(d, 0), 0, "abc")
	checkFile(t, "it survives", crashed(d, 1), 0, "Xbc")
}

// P2.4: the n-th call crashes: a write is performed before, another call is not.
func TestArm(t *testing.T) {
	calls := []func(d *Disk) api.Errno{
		func(d *Disk) api.Errno { return d.Write(0, 0, "b") },
		func(d *Disk) api.Errno { return d.Truncate(0, 1) },
		func(d *Disk) api.Errno { return d.Write(0, 1, "c") },
		func(d *Disk) api.Errno { return d.Sync(0) },
		func(d *Disk) api.Errno { return d.Truncate(0, 0) },
		func(d *Disk) api.Errno { return d.Write(0, 0, "") },
	}
	for n, want := range [][2]string{{"aa", "ba"}, {"aa", "ba"}, {"b", "bc"}, {"b", "bc"}, {"bc", "bc"}, {"", ""}} {
		for odd := range 2 {
			d := with(t, "aa")
			d.Arm(n+1, []int{odd})
			for i, call := range calls {
				e := api.Errno(api.OK)
				if i >= n {
					e = api.ErrDown
				}
				check(t, "call", call(d), e)
				d.Read(0, 0, 1)
			}
			d.Start()
			checkFile(t, "Arm", d, 0, want[odd])
			check(t, "the crash cancels the schedule", d.Sync(0), api.OK)
		}
	}
}

// P2.4: a call that would return an error counts, and returns ErrDown if it is the n-th.
func TestArmMeetsError(t *testing.T) {
	for _, call := range []func(d *Disk) api.Errno{
		func(d *Disk) api.Errno { return d.Write(16, 0, "b") },
		func(d *Disk) api.Errno { return d.Write(0, -1, "b") },
		func(d *Disk) api.Errno { return d.Write(0, limit, "b") },
		func(d *Disk) api.Errno { return d.Sync(-1) },
		func(d *Disk) api.Errno { return d.Truncate(0, 3) },
		func(d *Disk) api.Errno { return d.Truncate(0, -1) },
		func(d *Disk) api.Errno { return d.Truncate(99, 0) },
	} {
		d := with(t, "aa")
		d.Write(0, 1, "x")
		d.Lose(1)
		d.Arm(2, []int{1})
		c := d.Copy()
		if e := call(c); e == api.OK || e == api.ErrDown {
			t.Errorf("the first call: error %d", e)
		}
		check(t, "the second call", call(c), api.ErrDown)
		check(t, "the machine is down", call(c), api.ErrDown)
		c.Start()
		checkFile(t, "Arm", c, 0, "ax")
		check(t, "no sync was lost", c.Sync(0), api.ErrLost)
	}
}

// P2.4: a lost sync counts as a call, and the crash that meets a sync leaves the lost ones due.
func TestArmLose(t *testing.T) {
	d := with(t, "a")
	d.Lose(3)
	d.Arm(2, nil)
	check(t, "Sync", d.Sync(0), api.ErrLost)
	check(t, "Sync", d.Sync(0), api.ErrDown)
	d.Start()
	check(t, "Sync", d.Sync(0), api.ErrLost)
	check(t, "Sync", d.Sync(0), api.ErrLost)
	check(t, "Sync", d.Sync(0), api.OK)
}

// P2.4: only the calls of Write, Sync and Truncate count, and only while the machine is up.
func TestArmCounts(t *testing.T) {
	d := with(t, "a")
	d.Crash(nil)
	d.Arm(2, nil)
	for range 3 {
		check(t, "Write when down", d.Write(0, 0, "b"), api.ErrDown)
		check(t, "Sync when down", d.Sync(0), api.ErrDown)
		check(t, "Truncate when down", d.Truncate(0, 0), api.ErrDown)
	}
	d.Start()
	d.Read(0, 0, 1)
	d.Read(0, -1, 1)
	d.Size(0)
	d.Down()
	d.Copy()
	d.Lose(0)
	check(t, "the first call", d.Sync(0), api.OK)
	check(t, "the second call", d.Sync(0), api.ErrDown)
}

// P2.4: another call of Arm replaces the schedule, with keep, and a number less than 1 schedules nothing.
func TestArmAgain(t *testing.T) {
	for _, n := range []int{0, -1, math.MinInt} {
		d := with(t, "a")
		d.Arm(n, []int{1})
		check(t, "Write", d.Write(0, 0, "b"), api.OK)
		check(t, "Write", d.Write(0, 0, "c"), api.OK)
		d.Arm(1, []int{1})
		d.Arm(n, []int{1})
		check(t, "Sync", d.Sync(0), api.OK)
		d.Arm(1, []int{1})
		d.Arm(2, []int{0})
		check(t, "Write", d.Write(0, 0, "d"), api.OK)
		check(t, "Write", d.Write(0, 0, "e"), api.ErrDown)
		d.Start()
		checkFile(t, "Arm", d, 0, "c")
		d.Arm(math.MaxInt, nil)
		check(t, "Sync", d.Sync(0), api.OK)
	}
	d := with(t, "a")
	d.Arm(1, []int{1})
	d.Crash(nil)
	d.Start()
	check(t, "a crash cancels the schedule", d.Write(0, 0, "b"), api.OK)
}

// P2.2 to P2.4, P3: keep is neither changed nor kept.
func TestKeepIsTheCallers(t *testing.T) {
	keep := []int{1, 0, 1}
	d := New()
	d.Arm(1, keep[:2])
	keep[0], keep[1] = 0, 1
	check(t, "Write", d.Write(0, 0, strings.Repeat("x", 192)), api.ErrDown)
	d.Start()
	checkFile(t, "Arm", d, 0, strings.Repeat("x", 64)+zeros(64)+strings.Repeat("x", 64))
	d.Arm(9, keep)
	check(t, "Write", d.Write(0, 0, "y"), api.OK)
	d.Crash(keep[:1])
	if !slices.Equal(keep, []int{0, 1, 1}) {
		t.Errorf("keep is now %v", keep)
	}
	d.Start()
	checkFile(t, "Crash", d, 0, strings.Repeat("x", 64)+zeros(64)+strings.Repeat("x", 64))
}

// P1: many small writes, each with its sync, end soon although the file is large.
func TestManySyncs(t *testing.T) {
	d := New()
	d.Write(0, limit-1, "z")
	for i := range 50000 {
		if d.Write(0, 8*i, "12345678") != api.OK || d.Sync(0) != api.OK {
			t.Fatal("write", i)
		}
	}
	d.Crash(nil)
	d.Start()
	if s := content(t, d, 0); s[:400000] != strings.Repeat("12345678", 50000) || s[limit-1] != 'z' {
		t.Error("not what was synced")
	}
}
