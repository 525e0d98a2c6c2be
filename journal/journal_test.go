package journal

import (
	"math"
	"math/big"
	"slices"
	"strconv"
	"strings"
	"testing"

	"greenbelt/api"
	"greenbelt/disk"
)

const (
	longest  = 20000
	greatest = 1048576
	prime    = 2147483647
)

// check fails the test unless a call returned what it has to return.
func check(t *testing.T, what string, got, want api.Errno) {
	t.Helper()
	if got != want {
		t.Errorf("%s: error %d, not %d", what, got, want)
	}
}

// checkList fails the test unless a journal has these records, whichever method says so.
func checkList(t *testing.T, what string, j *Journal, want ...string) {
	t.Helper()
	if got := j.All(); !slices.Equal(got, want) {
		t.Errorf("%s: records %.200q, not %.200q", what, got, want)
	}
	if j.Len() != len(want) {
		t.Errorf("%s: Len %d, not %d", what, j.Len(), len(want))
	}
	for i, s := range want {
		if j.Get(i) != s {
			t.Errorf("%s: Get(%d) is %.200q, not %.200q", what, i, j.Get(i), s)
		}
	}
}

// content returns all of a file of a machine that is up.
func content(t *testing.T, d *disk.Disk, f int) string {
	t.Helper()
	s, e := d.Read(f, 0, d.Size(f))
	if e != api.OK {
		t.Fatalf("Read: error %d", e)
	}
	return s
}

// checkFile fails the test unless a file has these bytes.
func checkFile(t *testing.T, what string, d *disk.Disk, f int, want string) {
	t.Helper()
	if got := content(t, d, f); got != want {
		t.Errorf("%s: file %d is %.200q, not %.200q", what, f, got, want)
	}
}

// with returns a disk whose file 0 has these bytes, all of them pending.
func with(t *testing.T, s string) *disk.Disk {
	t.Helper()
	d := disk.New()
	check(t, "Write", d.Write(0, 0, s), api.OK)
	return d
}

// opened returns the journal of a file that can be opened.
func opened(t *testing.T, d *disk.Disk, f int) *Journal {
	t.Helper()
	j, e := Open(d, f)
	if e != api.OK || j == nil {
		t.Fatalf("Open(%d): error %d", f, e)
	}
	return j
}

// refused fails the test unless a file cannot be opened, for this reason.
func refused(t *testing.T, what string, d *disk.Disk, f int, want api.Errno) {
	t.Helper()
	j, e := Open(d, f)
	check(t, what, e, want)
	if j != nil {
		t.Errorf("%s: a journal together with an error", what)
	}
}

// written returns the forms of records, one after the other, as the chapter describes them.
func written(records ...string) string {
	var b strings.Builder
	for _, s := range records {
		sum := new(big.Int)
		for i := range len(s) {
			sum.Add(sum, big.NewInt(int64(s[i])*int64(i+1)))
		}
		sum.Mod(sum, big.NewInt(prime))
		b.WriteString(strconv.Itoa(len(s)) + ":" + s + "," + sum.String() + ";")
	}
	return b.String()
}

// zeros returns a record of bytes 0, whose sum is 0, and whose form has four bytes more than it and its length.
func zeros(n int) string { return strings.Repeat("\x00", n) }

// withSum returns a record of 20000 bytes of which the products have this sum, before it is divided.
func withSum(total int) string {
	s := make([]byte, longest)
	for i := longest; i > 0; i-- {
		b := min(255, total/i)
		s[i-1] = byte(b)
		total -= b * i
	}
	return string(s)
}

// P3.1: the sum is that of the bytes, each times its position.
func TestSum(t *testing.T) {
	for _, c := range []struct {
		record string
		want   int
	}{
		{"", 0}, {"a", 97}, {"ab", 293}, {"ba", 292}, {"aa", 291}, {"\x00", 0}, {"\xff", 255}, {"\x00\x00\x01", 3},
		{"\xff\xff", 765}, {"\u00e9", 0xc3 + 2*0xa9}, {"a\x00", 97}, {"\x00a", 194}, {"1:a,97;", 1660},
		{withSum(prime - 1), prime - 1}, {withSum(prime), 0}, {withSum(prime + 1), 1}, {withSum(2 * prime), 0}, {withSum(9*prime + 5), 5},
		{strings.Repeat("\xff", 4000), 2040510000}, {strings.Repeat("\xff", longest), 1610426119},
	} {
		if got := Sum(c.record); got != c.want {
			t.Errorf("Sum of %.40q (%d bytes) is %d, not %d", c.record, len(c.record), got, c.want)
		}
	}
}

// P3.1: the sum of a record is also right where the products add up to more than an int.
func TestSumLong(t *testing.T) {
	for _, n := range []int{1 << 20, 300 << 20} {
		want := big.NewInt(255)
		want.Mul(want, big.NewInt(int64(n)))
		want.Mul(want, big.NewInt(int64(n+1)))
		want.Rsh(want, 1)
		want.Mod(want, big.NewInt(prime))
		if got := Sum(strings.Repeat("\xff", n)); int64(got) != want.Int64() {
			t.Errorf("Sum of %d bytes is %d, not %d", n, got, want)
		}
	}
}

// P3.1: what is no file number is refused before anything else, without a call of the disk.
func TestOpenArg(t *testing.T) {
	d := disk.New()
	for _, f := range []int{-1, 16, 17, math.MinInt, math.MaxInt} {
		refused(t, "Open", d, f, api.ErrArg)
		d.Lose(1)
		d.Arm(1, nil)
		refused(t, "Open", d, f, api.ErrArg)
		if d.Down() {
			t.Errorf("Open(%d) met a crash", f)
		}
		d.Arm(0, nil)
		check(t, "the lost sync is still due", d.Sync(0), api.ErrLost)
	}
	d.Crash(nil)
	refused(t, "Open on a machine that is down", d, 16, api.ErrArg)
	refused(t, "Open on a machine that is down", d, -1, api.ErrArg)
	refused(t, "Open on a machine that is down", d, 15, api.ErrDown)
}

// P3.1: each file has a journal of its own.
func TestOpenFiles(t *testing.T) {
	d := disk.New()
	var all []*Journal
	for f := range 16 {
		all = append(all, opened(t, d, f))
		checkList(t, "Open of an empty file", all[f])
	}
	for f, j := range all {
		check(t, "Append", j.Append(strconv.Itoa(f)), api.OK)
	}
	for f, j := range all {
		checkList(t, "Append", j, strconv.Itoa(f))
		checkFile(t, "Append", d, f, written(strconv.Itoa(f)))
		checkList(t, "Open", opened(t, d, f), strconv.Itoa(f))
	}
}

// P3.1: the records are those at the beginning of the file, whose forms stay; the rest is cut off.
func TestOpenRecords(t *testing.T) {
	none := []string{}
	a := []string{"a"}
	for _, c := range []struct {
		file string
		want []string
	}{
		{"", none},
		{"1:a,97;", a},
		{"2:ab,293;1:a,98;", []string{"ab"}},
		{"2:ab,293;0:,0;", []string{"ab", ""}},
		{"0:,0;0:,0;0:,0;", []string{"", "", ""}},
		{"1:a,97;1:b,99;1:c,99;", a},
		{written("1:a,97;", "a,97;", ":,;", "\x00\xff\n"), []string{"1:a,97;", "a,97;", ":,;", "\x00\xff\n"}},
		{written(withSum(prime), withSum(prime+7)), []string{withSum(prime), withSum(prime + 7)}},
		// A sum that is not the record's, also one that differs by the modulus.
		{"1:a,98;", none}, {"1:a,96;", none}, {"1:a,0;", none}, {"0:,1;", none}, {"2:ab,292;", none}, {"2:ba,293;", none},
		{"1:a,2147483744;", none}, {"0:,2147483647;", none}, {"1:a,-97;", none}, {"1:a,18446744073709551713;", none},
		// Bytes that are no encodings.
		{"01:a,97;", none}, {"1:a,097;", none}, {"00:,0;", none}, {"0:,00;", none}, {"0:,-0;", none}, {"-0:,0;", none}, {"-1:a,97;", none},
		{"+1:a,97;", none}, {" 1:a,97;", none}, {"1 :a,97;", none}, {"1:a, 97;", none}, {"1:a,97 ;", none}, {"1:a;97;", none},
		{"1;a,97;", none}, {"1:a,97,", none}, {"1:a97;", none}, {"1:a,97:", none}, {"1a,97;", none}, {":,0;", none}, {"0:,;", none}, {"1[a]97;", none},
		{"2:a,97;", none}, {"0:a,97;", none}, {"1:,97;", none}, {"1:ab,97;", none}, {"9999999999:a,97;", none},
		{"9223372036854775807:a,97;", none}, {"9223372036854775808:a,97;", none}, {"18446744073709551617:a,97;", none},
		// Bytes 0, as they are left by a crash.
		{"\x00", none}, {zeros(200), none}, {"1:a,97;" + zeros(57), a}, {"1:\x00,97;1:b,98;", none}, {"\x00:a,97;", none},
		{"1:a,97\x00", none}, {"1:a\x0097;", none}, {"1:a,9\x00;", none}, {"1:a,97;" + zeros(3) + "1:a,97;", a}, {"1:\x00,0;", []string{"\x00"}},
		{written("a") + " ", a}, {written("a") + "\n" + written("b"), a}, {"\ufeff" + written("a"), none},
	} {
		d := with(t, c.file)
		checkList(t, strconv.Quote(c.file[:min(60, len(c.file))]), opened(t, d, 0), c.want...)
		checkFile(t, "Open", d, 0, written(c.want...))
	}
}

// P3.1: a file that ends within a form, or goes on with something else there, has the records before it.
func TestOpenTorn(t *testing.T) {
	records := []string{"ab", "", "1:a,97;", "0123456789", zeros(3)}
	s := written(records...)
	for size := range len(s) + 1 {
		n := 0
		for n < len(records) && len(written(records[:n+1]...)) <= size {
			n++
		}
		for _, tail := range []string{"", "!", zeros(70)} {
			d := with(t, s[:size]+tail)
			checkList(t, strconv.Quote(s[:size]+tail), opened(t, d, 0), records[:n]...)
			checkFile(t, "Open", d, 0, written(records[:n]...))
		}
	}
}

// P3.1: a record has at most 20000 bytes; with one that has more the records end, whatever its sum.
func TestOpenLong(t *testing.T) {
	for _, c := range []struct{ size, records int }{{longest - 1, 3}, {longest, 3}, {longest + 1, 1}, {longest + 2, 1}, {200000, 1}} {
		for _, b := range []string{"x", "\x00", "\xff"} {
			list := []string{"a", strings.Repeat(b, c.size), "z"}
			d := with(t, written(list...))
			checkList(t, strconv.Itoa(c.size), opened(t, d, 0), list[:c.records]...)
			checkFile(t, "Open", d, 0, written(list[:c.records]...))
		}
	}
}

// P3.1: Open first syncs, and returns the error of that without having cut off anything.
func TestOpenSync(t *testing.T) {
	file := written("a") + "torn"
	d := with(t, file)
	d.Lose(1)
	refused(t, "a lost sync", d, 0, api.ErrLost)
	checkFile(t, "a lost sync", d, 0, file)
	d.Arm(1, []int{1})
	refused(t, "a crash at Sync", d, 0, api.ErrDown)
	refused(t, "a machine that is down", d, 0, api.ErrDown)
	d.Start()
	checkFile(t, "a crash at Sync", d, 0, file)
	checkList(t, "Open", opened(t, d, 0), "a")
	d.Crash(nil)
	refused(t, "a machine that is down", d, 0, api.ErrDown)

	d = with(t, written("a"))
	opened(t, d, 0)
	d.Crash(nil)
	d.Start()
	checkFile(t, "what was found is durable", d, 0, written("a"))
}

// P3.1: Open truncates only a file that is longer than its records, and returns the error of that.
func TestOpenTruncate(t *testing.T) {
	file := written("a", "b") + "1:c,9"
	d := with(t, file)
	d.Arm(2, []int{1})
	refused(t, "a crash at Truncate", d, 0, api.ErrDown)
	d.Start()
	checkFile(t, "a crash at Truncate", d, 0, file)
	d.Arm(3, nil)
	checkList(t, "two calls", opened(t, d, 0), "a", "b")
	d.Arm(2, nil)
	checkList(t, "one call", opened(t, d, 0), "a", "b")
	if d.Down() {
		t.Error("Open makes more calls than it should")
	}
	check(t, "the second call", d.Sync(0), api.ErrDown)
	d.Start()
	checkFile(t, "the rest is gone for good", d, 0, written("a", "b"))

	d = disk.New()
	d.Arm(2, nil)
	checkList(t, "an empty file", opened(t, d, 0))
	check(t, "the second call", d.Sync(0), api.ErrDown)
}

// P3.2: Append writes the forms, one after the other.
func TestAppend(t *testing.T) {
	d := disk.New()
	j := opened(t, d, 7)
	list := []string{"ab", "", "", "a,b;", "2:ab,293;", "\x00\xff", "\u00e9", strings.Repeat("x", 100), zeros(64), strings.Repeat("\xff", longest)}
	for i, s := range list {
		check(t, "Append", j.Append(s), api.OK)
		checkList(t, "Append", j, list[:i+1]...)
		checkFile(t, "Append", d, 7, written(list[:i+1]...))
	}
	checkFile(t, "Append", d, 0, "")
	checkList(t, "Open", opened(t, d, 7), list...)
}

// P3.2: what is appended follows what was found, in the place of what was cut off.
func TestAppendAfterOpen(t *testing.T) {
	d := with(t, written("a", "b")+"1:c,99"+strings.Repeat("y", 300))
	j := opened(t, d, 0)
	check(t, "Append", j.Append("c"), api.OK)
	checkList(t, "Append", j, "a", "b", "c")
	checkFile(t, "Append", d, 0, written("a", "b", "c"))
	check(t, "Sync", j.Sync(), api.OK)
	d.Crash(nil)
	d.Start()
	checkList(t, "Open", opened(t, d, 0), "a", "b", "c")
}

// P3.2: Append does not sync.
func TestAppendPending(t *testing.T) {
	d := disk.New()
	j := opened(t, d, 0)
	check(t, "Append", j.Append("a"), api.OK)
	c := d.Copy()
	c.Crash(nil)
	c.Start()
	checkFile(t, "nothing survives", c, 0, "")
	d.Crash([]int{1})
	d.Start()
	checkFile(t, "all survives", d, 0, written("a"))
}

// P3.2: a record with more than 20000 bytes is refused, without a call of the disk, and nothing else changes.
func TestAppendRange(t *testing.T) {
	d := disk.New()
	j := opened(t, d, 0)
	check(t, "20000 bytes", j.Append(strings.Repeat("x", longest)), api.OK)
	d.Arm(1, nil)
	for _, n := range []int{longest + 1, longest + 2, greatest, 1 << 22} {
		check(t, "too long", j.Append(zeros(n)), api.ErrRange)
	}
	if d.Down() {
		t.Fatal("a call of the disk for a record that is too long")
	}
	d.Arm(0, nil)
	check(t, "Append", j.Append("a"), api.OK)
	check(t, "Sync", j.Sync(), api.OK)
	checkList(t, "Append", j, strings.Repeat("x", longest), "a")
	checkFile(t, "Append", d, 0, written(strings.Repeat("x", longest), "a"))
}

// nearlyFull returns a journal whose list has rest bytes less than Max, and its records.
func nearlyFull(t *testing.T, rest int) (*disk.Disk, *Journal, []string) {
	t.Helper()
	d := disk.New()
	j := opened(t, d, 0)
	var list []string
	for range 52 {
		list = append(list, zeros(longest))
	}
	// The form of 20000 bytes 0 has 20009 bytes, that of four digits' length 8 bytes more than its record.
	list = append(list, zeros(greatest-rest-52*20009-8))
	for _, s := range list {
		check(t, "Append", j.Append(s), api.OK)
	}
	if d.Size(0) != greatest-rest {
		t.Fatalf("%d bytes, not %d", d.Size(0), greatest-rest)
	}
	return d, j, list
}

// P3.2: the length of the list reaches Max, but does not pass it.
func TestAppendFull(t *testing.T) {
	if Max != greatest {
		t.Errorf("Max is %d", Max)
	}
	for _, c := range []struct {
		rest   int
		record string
		want   api.Errno
	}{
		{5, "", api.OK}, {4, "", api.ErrFull}, {0, "", api.ErrFull}, {6, "", api.OK},
		{7, "a", api.OK}, {6, "a", api.ErrFull}, {8, "a", api.OK},
		// The digits of the sum count.
		{8, "d", api.OK}, {7, "d", api.ErrFull}, {107, zeros(100), api.OK}, {106, zeros(100), api.ErrFull},
	} {
		d, j, list := nearlyFull(t, c.rest)
		if c.want == api.OK {
			list = append(list, c.record)
		} else {
			d.Arm(1, nil)
		}
		check(t, strconv.Itoa(c.rest), j.Append(c.record), c.want)
		if d.Down() {
			t.Fatal("a call of the disk for a record that has no place")
		}
		d.Arm(0, nil)
		checkList(t, "Append", j, list...)
		checkFile(t, "Append", d, 0, written(list...))
		check(t, "Sync", j.Sync(), api.OK)
		checkList(t, "Open", opened(t, d, 0), list...)
	}
}

// P3.2: a record that has no place leaves the place to shorter ones.
func TestAppendShorter(t *testing.T) {
	_, j, list := nearlyFull(t, 14)
	check(t, "8 bytes", j.Append(zeros(11)), api.ErrFull)
	check(t, "1 byte", j.Append("a"), api.OK)
	check(t, "1 byte", j.Append("d"), api.ErrFull)
	check(t, "1 byte", j.Append("c"), api.OK)
	check(t, "no byte", j.Append(""), api.ErrFull)
	checkList(t, "Append", j, append(list, "a", "c")...)
}

// P3.1 and P3.2: a file with more records than Max allows is opened with all of them, and is full.
func TestLongFile(t *testing.T) {
	var list []string
	for range 53 {
		list = append(list, zeros(longest))
	}
	for n := 0; n < 1000; n++ {
		list = append(list, strconv.Itoa(n))
	}
	d := with(t, written(list...)+"torn")
	j := opened(t, d, 0)
	checkList(t, "Open", j, list...)
	checkFile(t, "Open", d, 0, written(list...))
	check(t, "Append", j.Append(""), api.ErrFull)
	check(t, "Append", j.Append(zeros(longest+1)), api.ErrRange)
	check(t, "Sync", j.Sync(), api.OK)
	checkList(t, "Append", j, list...)
}

// P3.1: the greatest file that a disk has is read as a whole, in time that grows with it.
func TestGreatestFile(t *testing.T) {
	const n = 1 << 24 / 5
	d := with(t, strings.Repeat("0:,0;", n)+"1")
	j := opened(t, d, 0)
	if j.Len() != n || d.Size(0) != 5*n || j.Get(n-1) != "" {
		t.Errorf("%d records, %d bytes", j.Len(), d.Size(0))
	}
}

// P3.2: of several errors, the first one is returned.
func TestAppendOrder(t *testing.T) {
	long := zeros(longest + 1)
	d, j, _ := nearlyFull(t, 5)
	d.Crash(nil)
	check(t, "too long, full, down", j.Append(long), api.ErrRange)
	check(t, "full, down", j.Append("a"), api.ErrFull)
	check(t, "down", j.Append(""), api.ErrDown)
	check(t, "after an error of the disk", j.Append(long), api.ErrState)
	check(t, "after an error of the disk", j.Append("a"), api.ErrState)
	check(t, "after an error of the disk", j.Append(""), api.ErrState)
	check(t, "after an error of the disk", j.Sync(), api.ErrState)
}

// P3.2 and P3.3: after an error of the disk nothing more is done, and the list is what it was.
func TestState(t *testing.T) {
	for what, fail := range map[string]func(d *disk.Disk, j *Journal) (got, want api.Errno){
		"Append on a machine that is down": func(d *disk.Disk, j *Journal) (got, want api.Errno) {
			d.Crash(nil)
			return j.Append("c"), api.ErrDown
		},
		"Sync on a machine that is down": func(d *disk.Disk, j *Journal) (got, want api.Errno) {
			d.Crash(nil)
			return j.Sync(), api.ErrDown
		},
		"a crash at Append": func(d *disk.Disk, j *Journal) (got, want api.Errno) {
			d.Arm(1, []int{1})
			return j.Append("c"), api.ErrDown
		},
		"a crash at Sync": func(d *disk.Disk, j *Journal) (got, want api.Errno) {
			d.Arm(1, []int{0})
			return j.Sync(), api.ErrDown
		},
		"a lost sync": func(d *disk.Disk, j *Journal) (got, want api.Errno) {
			d.Lose(2)
			return j.Sync(), api.ErrLost
		},
	} {
		d := disk.New()
		j := opened(t, d, 0)
		j.Append("a")
		j.Append("b")
		got, want := fail(d, j)
		check(t, what, got, want)
		size := d.Size(0)
		for range 2 {
			check(t, what+", Append", j.Append("d"), api.ErrState)
			check(t, what+", Append", j.Append(zeros(longest+1)), api.ErrState)
			check(t, what+", Sync", j.Sync(), api.ErrState)
		}
		checkList(t, what, j, "a", "b")
		if d.Size(0) != size {
			t.Errorf("%s: a record is written afterwards", what)
		}
	}
}

// P3.2 and P3.3: a journal in the state of an error makes no calls of the disk.
func TestStateCalls(t *testing.T) {
	d := disk.New()
	j := opened(t, d, 0)
	check(t, "Append", j.Append("a"), api.OK)
	d.Lose(2)
	check(t, "Sync", j.Sync(), api.ErrLost)
	d.Arm(1, nil)
	check(t, "Append", j.Append("b"), api.ErrState)
	check(t, "Sync", j.Sync(), api.ErrState)
	if d.Down() {
		t.Fatal("a call of the disk after an error")
	}
	d.Arm(0, nil)
	refused(t, "the other lost sync", d, 0, api.ErrLost)
	checkList(t, "Open", opened(t, d, 0), "a")
}

// P3.3: what was there at a Sync survives; a Sync is one call, and only for its own file.
func TestSync(t *testing.T) {
	d := disk.New()
	j, k := opened(t, d, 0), opened(t, d, 1)
	check(t, "Sync of no records", j.Sync(), api.OK)
	j.Append("a")
	k.Append("b")
	check(t, "Sync", j.Sync(), api.OK)
	j.Append("c")
	d.Arm(2, nil)
	check(t, "another Sync", k.Sync(), api.OK)
	k.Append("d") // it meets the crash
	d.Start()
	checkList(t, "Open", opened(t, d, 0), "a")
	checkList(t, "Open", opened(t, d, 1), "b")

	d = disk.New()
	j, k = opened(t, d, 0), opened(t, d, 1)
	j.Append("a")
	k.Append("b")
	check(t, "Sync", j.Sync(), api.OK)
	check(t, "Sync again", j.Sync(), api.OK)
	d.Crash(nil)
	check(t, "Sync on a machine that is down", j.Sync(), api.ErrDown)
	d.Start()
	checkList(t, "synced", opened(t, d, 0), "a")
	checkList(t, "not synced", opened(t, d, 1))
}

// P3.4: there are records with the indices from 0 to Len - 1.
func TestGet(t *testing.T) {
	d := disk.New()
	j := opened(t, d, 0)
	for _, list := range [][]string{nil, {"a"}, {"a", "b"}} {
		if len(list) > 0 {
			check(t, "Append", j.Append(list[len(list)-1]), api.OK)
		}
		checkList(t, "Append", j, list...)
		for _, i := range []int{-1, -2, len(list), len(list) + 1, math.MinInt, math.MaxInt} {
			if s := j.Get(i); s != "" {
				t.Errorf("Get(%d) of %d records is %q", i, len(list), s)
			}
		}
	}
}

// P3.5: no list that was returned is shared with anything.
func TestMemory(t *testing.T) {
	d := with(t, written("a", "b", "c"))
	j := opened(t, d, 0)
	for range 9 {
		first, second := j.All(), j.All()
		want := slices.Clone(first)
		clear(first)
		first = append(first, "z")
		if !slices.Equal(second, want) {
			t.Fatal("two lists share memory")
		}
		checkList(t, "a changed list", j, want...)
		second = append(second, "mine")
		check(t, "Append", j.Append("theirs"), api.OK)
		if second[len(want)] != "mine" || first[len(want)] != "z" {
			t.Fatal("Append writes into a list that was returned")
		}
		checkList(t, "Append", j, append(want, "theirs")...)
	}
}

// P3.7: opening a file again changes nothing.
func TestOpenAgain(t *testing.T) {
	for _, file := range []string{"", "x", written("a"), written("a", "", "b") + "1:c,9", written(zeros(500)) + zeros(300)} {
		d := with(t, file)
		list := opened(t, d, 0).All()
		s := content(t, d, 0)
		for range 3 {
			checkList(t, "Open again", opened(t, d, 0), list...)
			checkFile(t, "Open again", d, 0, s)
		}
		d.Crash(nil)
		d.Start()
		checkList(t, "Open after a crash", opened(t, d, 0), list...)
		checkFile(t, "Open after a crash", d, 0, s)
	}
}

// P3.7: a string has the records of each of its beginnings, as far as that reaches.
func TestOpenContinued(t *testing.T) {
	s := written("a", "", "1:a,97;", zeros(9), "bb") + "1:c,99" + written("d")
	whole := opened(t, with(t, s), 0).All()
	if len(whole) != 5 {
		t.Fatalf("%d records", len(whole))
	}
	for size := range len(s) + 1 {
		d := with(t, s[:size])
		list := opened(t, d, 0).All()
		if len(list) > len(whole) || !slices.Equal(list, whole[:len(list)]) {
			t.Fatalf("the first %d bytes have other records: %q", size, list)
		}
		if n := len(list); n < len(whole) && len(written(whole[:n+1]...)) <= size {
			t.Fatalf("the first %d bytes lack a record: %q", size, list)
		}
		// What was cut off can be written again.
		check(t, "Write", d.Write(0, d.Size(0), s[d.Size(0):]), api.OK)
		checkList(t, "continued", opened(t, d, 0), whole...)
	}
}
