package journal

import (
	"math/rand"
	"slices"
	"strconv"
	"strings"
	"testing"

	"greenbelt/api"
	"greenbelt/disk"
)

// recordsOf returns the records of a string: it tries each length that a record at a position may have.
func recordsOf(s string) []string {
	var list []string
	for again := true; again; {
		again = false
		for n := 0; n <= min(longest, len(s)); n++ {
			from := len(strconv.Itoa(n)) + 1
			if from+n > len(s) || !strings.HasPrefix(s, strconv.Itoa(n)+":") {
				continue
			}
			record := s[from : from+n]
			if f := written(record); strings.HasPrefix(s, f) {
				list, s, again = append(list, record), s[len(f):], true
				break
			}
		}
	}
	return list
}

// model follows the chapter's words on a disk of its own, and reckons everything anew at each call.
type model struct {
	disk    *disk.Disk
	file    int
	records []string
	failed  bool
}

func openModel(d *disk.Disk, file int) (*model, api.Errno) {
	if file < 0 || file > 15 {
		return nil, api.ErrArg
	}
	if e := d.Sync(file); e != api.OK {
		return nil, e
	}
	s, e := d.Read(file, 0, 1<<30)
	if e != api.OK {
		return nil, e
	}
	list := recordsOf(s)
	if n := len(written(list...)); len(s) > n {
		if e := d.Truncate(file, n); e != api.OK {
			return nil, e
		}
	}
	return &model{disk: d, file: file, records: list}, api.OK
}

func (m *model) append(record string) api.Errno {
	length := len(written(m.records...))
	switch f := written(record); {
	case m.failed:
		return api.ErrState
	case len(record) > longest:
		return api.ErrRange
	case length+len(f) > greatest:
		return api.ErrFull
	default:
		if e := m.disk.Write(m.file, length, f); e != api.OK {
			m.failed = true
			return e
		}
	}
	m.records = append(m.records, record)
	return api.OK
}

func (m *model) sync() api.Errno {
	if m.failed {
		return api.ErrState
	}
	e := m.disk.Sync(m.file)
	m.failed = e != api.OK
	return e
}

// pair has a journal and its model, each with a disk that has had the same calls.
type pair struct {
	t           *testing.T
	disk, other *disk.Disk
	j           *Journal // nil if none is open
	m           *model
}

// compare fails the test unless both disks, and both lists, are the same.
func (p *pair) compare(what string, got, want api.Errno) {
	p.t.Helper()
	check(p.t, what, got, want)
	if p.disk.Down() != p.other.Down() || p.disk.Size(0) != p.other.Size(0) {
		p.t.Fatalf("%s: down %v, not %v; %d bytes, not %d", what, p.disk.Down(), p.other.Down(), p.disk.Size(0), p.other.Size(0))
	}
	s, e := p.disk.Read(0, 0, 1<<30)
	if z, f := p.other.Read(0, 0, 1<<30); s != z || e != f {
		p.t.Fatalf("%s: the file is %.200q, not %.200q", what, s, z)
	}
	if (p.j == nil) != (p.m == nil) {
		p.t.Fatalf("%s: whether there is a journal", what)
	}
	if p.j != nil {
		checkList(p.t, what, p.j, p.m.records...)
	}
	if p.t.Failed() {
		p.t.FailNow()
	}
}

// both calls a function for both disks.
func (p *pair) both(f func(d *disk.Disk)) {
	f(p.disk)
	f(p.other)
}

func (p *pair) open(file int) {
	j, e := Open(p.disk, file)
	m, f := openModel(p.other, file)
	// After a call that was refused for its argument the journal that was open still is.
	if f != api.ErrArg {
		p.j, p.m = j, m
	}
	p.compare("Open", e, f)
}

// restart starts the machine if it is down: the journal that was open does not count any more.
func (p *pair) restart() {
	if p.disk.Down() {
		p.both((*disk.Disk).Start)
		p.j, p.m = nil, nil
	}
}

// spoil writes something at the end of the file, or into it, while no journal is open.
func (p *pair) spoil(r *rand.Rand) {
	p.j, p.m = nil, nil
	at := p.disk.Size(0)
	if r.Intn(3) == 0 {
		at = r.Intn(at + 1)
	}
	s := piece(r)
	p.both(func(d *disk.Disk) { d.Write(0, at, s) })
	p.compare("Write", 0, 0)
}

// step makes a call, with which the machine may be down.
func (p *pair) step(r *rand.Rand) {
	switch k := r.Intn(40); {
	case k < 2:
		keep := mask(r)
		p.both(func(d *disk.Disk) { d.Crash(keep) })
	case k < 4:
		n, keep := r.Intn(8)-1, mask(r)
		p.both(func(d *disk.Disk) { d.Arm(n, keep) })
	case k < 5:
		n := r.Intn(3)
		p.both(func(d *disk.Disk) { d.Lose(n) })
	case k < 7:
		p.restart()
	case k < 8:
		p.spoil(r)
	case k < 9:
		p.open(r.Intn(2)*40 - 20)
	case k < 12 || p.j == nil:
		p.open(0)
	case k < 18:
		p.compare("Sync", p.j.Sync(), p.m.sync())
	default:
		s := record(r)
		p.compare("Append", p.j.Append(s), p.m.append(s))
	}
}

// mask returns which sectors survive.
func mask(r *rand.Rand) []int {
	keep := make([]int, r.Intn(8))
	for i := range keep {
		keep[i] = r.Intn(5) - 2
	}
	return keep
}

// record returns a record: often a short one, or one that looks like the form of another one.
func record(r *rand.Rand) string {
	switch r.Intn(12) {
	case 0, 1:
		return ""
	case 2:
		return zeros(r.Intn(200))
	case 3:
		return written(record(r))[:1+r.Intn(2)]
	case 4:
		return written("a", zeros(r.Intn(70)))
	case 5:
		return strings.Repeat("\xff", r.Intn(300))
	case 6:
		return strings.Repeat("0:,0;", r.Intn(40))
	case 7:
		return zeros(longest - 3 + r.Intn(6))
	default:
		s := make([]byte, r.Intn(90))
		for i := range s {
			s[i] = "01:,;\x00a\xff"[r.Intn(8)]
		}
		return string(s)
	}
}

// piece returns a record's form, or what is left of it after some damage.
func piece(r *rand.Rand) string {
	s := written(record(r), record(r))
	switch r.Intn(6) {
	case 0:
		return s[:r.Intn(len(s))]
	case 1:
		return s[r.Intn(len(s)):]
	case 2:
		i := r.Intn(len(s))
		return s[:i] + string("019:,;\x00-"[r.Intn(8)]) + s[i+1:]
	case 3:
		i := r.Intn(len(s))
		return s[:i] + string("019:,;\x00-"[r.Intn(8)]) + s[i:]
	case 4:
		i := r.Intn(len(s))
		return s[:i] + zeros(min(64, len(s)-i)) + s[min(len(s), i+64):]
	}
	return s
}

// P3.1 to P3.4: whatever is called, a journal does what the chapter says.
func TestModel(t *testing.T) {
	for seed := range int64(150) {
		r := rand.New(rand.NewSource(seed))
		p := &pair{t: t, disk: disk.New(), other: disk.New()}
		for range 120 {
			p.step(r)
		}
	}
}

// P3.1 and P3.7: the records of all strings of up to six of the signs of the shortest forms.
func TestShortFiles(t *testing.T) {
	const signs = "01:,;\x00\x01"
	d := disk.New()
	found := 0
	var try func(s string)
	try = func(s string) {
		want := recordsOf(s)
		d.Write(0, 0, s)
		j := opened(t, d, 0)
		if !slices.Equal(j.All(), want) || d.Size(0) != len(written(want...)) {
			t.Fatalf("%q: records %q, not %q", s, j.All(), want)
		}
		found += j.Len()
		d.Truncate(0, 0)
		for i := range len(signs) {
			if len(s) < 6 {
				try(s + signs[i:i+1])
			}
		}
	}
	try("")
	// 0:,0; with up to one sign after it, and 1:b,sum; for the bytes 0 and 1.
	if found != 1+len(signs)+2 {
		t.Errorf("%d records", found)
	}
}

// run has a journal, and what the theorem of the chapter is about.
type run struct {
	t      *testing.T
	disk   *disk.Disk
	j      *Journal
	synced int    // records that were there when Open or Sync last returned OK
	last   string // the record whose Append returned an error of the disk
	failed bool   // whether there is such a record
}

// play makes calls until one of them returns an error: a record for each string, and a Sync for each "sync".
func (r *run) play(script []string) {
	for _, s := range script {
		if s == "sync" {
			if r.j.Sync() != api.OK {
				return
			}
			r.synced = r.j.Len()
			continue
		}
		if r.j.Append(s) != api.OK {
			r.last, r.failed = s, true
			return
		}
	}
}

// reopen opens the file again after a crash, and fails the test unless the records are those of the theorem.
func (r *run) reopen() {
	r.t.Helper()
	were := r.j.All()
	if r.failed {
		were = append(were, r.last)
	}
	r.disk.Start()
	j, e := Open(r.disk, 0)
	// The machine may go down, or a sync may be lost, also now.
	for ; e != api.OK; j, e = Open(r.disk, 0) {
		if e != api.ErrLost && !r.disk.Down() {
			r.t.Fatalf("Open: error %d", e)
		}
		r.disk.Start()
	}
	n := j.Len()
	if n < r.synced || n > len(were) || !slices.Equal(j.All(), were[:n]) {
		r.t.Fatalf("%d records after a crash, %d of %d were synced: %.200q", n, r.synced, len(were), j.All())
	}
	r.j, r.synced, r.failed = j, n, false
}

// start returns a run with an empty journal.
func start(t *testing.T) *run {
	d := disk.New()
	return &run{t: t, disk: d, j: opened(t, d, 0)}
}

// survivors returns all choices of sectors that survive, if there are at most eight.
func survivors() [][]int {
	var all [][]int
	for bits := range 256 {
		var keep []int
		for i := range 8 {
			keep = append(keep, bits>>i&1)
		}
		all = append(all, keep)
	}
	return all
}

// P3.6: a crash at each call, with each choice of sectors that survive, and then another one.
func TestCrashes(t *testing.T) {
	first := []string{"a", "", "sync", zeros(70) + "z", "0:,0;0:,0;", "sync", strings.Repeat("\xff", 150), "b" + zeros(61), "c", "sync", "d"}
	second := []string{"", strings.Repeat("x", 100), "sync", zeros(130)}
	lengths := map[int]bool{}
	for call := 1; call <= len(first)+1; call++ {
		for _, keep := range survivors() {
			r := start(t)
			r.disk.Arm(call, keep)
			r.play(first)
			r.disk.Crash(keep)
			r.reopen()
			lengths[r.j.Len()] = true
			r.disk.Arm(1+call%5, keep[call%4:])
			r.play(second)
			r.disk.Crash(keep[call%4:])
			r.reopen()
			r.play([]string{"e", "sync"})
			r.disk.Crash(nil)
			r.reopen()
			if r.j.Len() == 0 || r.j.Get(r.j.Len()-1) != "e" {
				t.Fatal("what was synced is lost")
			}
		}
	}
	if len(lengths) != 9 {
		t.Errorf("the crashes left only lists of %v", lengths)
	}
}

// theorems returns a record with at most 4000 bytes.
func theorems(r *rand.Rand) string {
	switch r.Intn(6) {
	case 0:
		return strings.Repeat("\xff", 4000-r.Intn(3))
	case 1:
		return zeros(r.Intn(4001))
	case 2:
		return zeros(r.Intn(64)) + strings.Repeat(string(rune(1+r.Intn(100))), r.Intn(400)) + zeros(r.Intn(200))
	}
	s := record(r)
	return s[:min(len(s), 4000)]
}

// P3.6: several crashes and openings, one after the other, with lost syncs in between.
func TestManyCrashes(t *testing.T) {
	torn, kept := 0, 0
	for seed := range int64(1500) {
		rnd := rand.New(rand.NewSource(seed))
		r := start(t)
		for range 8 {
			r.disk.Lose(max(0, rnd.Intn(8)-5))
			if rnd.Intn(3) > 0 {
				r.disk.Arm(1+rnd.Intn(12), mask(rnd))
			}
			var script []string
			for range rnd.Intn(10) {
				script = append(script, theorems(rnd))
				if rnd.Intn(3) == 0 {
					script = append(script, "sync")
				}
			}
			r.play(script)
			were := r.j.Len()
			r.disk.Crash(mask(rnd))
			if rnd.Intn(4) == 0 {
				r.disk.Start()
				r.disk.Arm(1+rnd.Intn(2), mask(rnd))
			}
			r.reopen()
			if r.j.Len() < were {
				torn++
			} else {
				kept++
			}
		}
	}
	if torn < 1000 || kept < 1000 {
		t.Errorf("%d lists were torn, %d were not", torn, kept)
	}
}
