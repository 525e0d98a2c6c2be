package disk

import (
	"math/rand"
	"slices"
	"strings"
	"testing"

	"greenbelt/api"
)

// model follows the chapter's words with strings that are copied, without regard to time.
type model struct {
	bytes, durable [16]string
	pending        [][2]int
	lost, armed    int
	keep           []int
	down           bool
}

// putText is the chapter's "to put".
func putText(into string, at int, s string) string {
	if s == "" {
		return into
	}
	if len(into) < at {
		into += strings.Repeat("\x00", at-len(into))
	}
	end := min(at+len(s), len(into))
	return into[:at] + s + into[end:]
}

func (m *model) isFile(f int) bool { return f >= 0 && f < 16 }

func (m *model) read(f, at, size int) (string, api.Errno) {
	switch {
	case m.down:
		return "", api.ErrDown
	case !m.isFile(f) || at < 0 || size < 0:
		return "", api.ErrArg
	}
	s := m.bytes[f]
	if at >= len(s) {
		return "", api.OK
	}
	return s[at:min(at+size, len(s))], api.OK
}

// call performs a call of Write, Sync or Truncate: do returns what it returns and what it does.
func (m *model) call(isWrite bool, do func() (api.Errno, func())) api.Errno {
	if m.down {
		return api.ErrDown
	}
	e, effect := do()
	m.armed--
	if m.armed == 0 {
		if isWrite && e == api.OK {
			effect()
		}
		m.crash(m.keep)
		return api.ErrDown
	}
	effect()
	return e
}

func (m *model) write(f, at int, s string) api.Errno {
	return m.call(true, func() (api.Errno, func()) {
		switch {
		case !m.isFile(f) || at < 0:
			return api.ErrArg, func() {}
		case at+len(s) > 1<<24:
			return api.ErrFull, func() {}
		}
		return api.OK, func() {
			m.bytes[f] = putText(m.bytes[f], at, s)
			for i := at; i < at+len(s); i++ {
				if x := [2]int{f, i / 64}; !slices.Contains(m.pending, x) {
					m.pending = append(m.pending, x)
				}
			}
		}
	})
}

func (m *model) sync(f int) api.Errno {
	return m.call(false, func() (api.Errno, func()) {
		switch {
		case !m.isFile(f):
			return api.ErrArg, func() {}
		case m.lost > 0:
			return api.ErrLost, func() { m.lost-- }
		}
		return api.OK, func() { m.settle(f, m.bytes[f]) }
	})
}

func (m *model) truncate(f, size int) api.Errno {
	return m.call(false, func() (api.Errno, func()) {
		if !m.isFile(f) || size < 0 || size > len(m.bytes[f]) {
			return api.ErrArg, func() {}
		}
		return api.OK, func() { m.settle(f, m.bytes[f][:size]) }
	})
}

// settle makes bytes a file and its durable part.
func (m *model) settle(f int, s string) {
	m.bytes[f], m.durable[f] = s, s
	var left [][2]int
	for _, x := range m.pending {
		if x[0] != f {
			left = append(left, x)
		}
	}
	m.pending = left
}

func (m *model) crash(keep []int) {
	if m.down {
		return
	}
	for i, x := range m.pending {
		if len(keep) > 0 && keep[i%len(keep)]&1 == 1 {
			s := m.bytes[x[0]]
			from := 64 * x[1]
			m.durable[x[0]] = putText(m.durable[x[0]], from, s[from:min(from+64, len(s))])
		}
	}
	m.bytes, m.pending = m.durable, nil
	m.armed, m.keep, m.down = 0, nil, true
}

// copy returns an independent copy: what a list of the model has is never changed in place.
func (m *model) copy() *model {
	c := *m
	c.pending = slices.Clone(m.pending)
	return &c
}

// pair is a disk and its model, to which the same is done.
type pair struct {
	d *Disk
	m *model
}

// checkPair compares all that can be seen of a disk and its model.
func checkPair(t *testing.T, p pair) {
	t.Helper()
	if p.d.Down() != p.m.down {
		t.Fatalf("Down() = %v", p.d.Down())
	}
	for f := -1; f <= 16; f++ {
		s, e := p.d.Read(f, 0, 1<<30)
		want, wantE := p.m.read(f, 0, 1<<30)
		size := 0
		if p.m.isFile(f) {
			size = len(p.m.bytes[f])
		}
		if s != want || e != wantE || p.d.Size(f) != size {
			t.Fatalf("file %d is %q, error %d, %d bytes; not %q, error %d, %d bytes", f, s, e, p.d.Size(f), want, wantE, size)
		}
	}
}

// randomKeep returns a list of up to six elements.
func randomKeep(rnd *rand.Rand) []int {
	keep := make([]int, rnd.Intn(7))
	for i := range keep {
		keep[i] = rnd.Intn(7) - 3
	}
	return keep
}

// someFile returns mostly one of three files, so that their sectors meet in the list.
func someFile(rnd *rand.Rand) int {
	if rnd.Intn(20) == 0 {
		return rnd.Intn(20) - 2
	}
	return []int{0, 7, 15}[rnd.Intn(3)]
}

// step does the same, chosen at random, to a disk and its model.
func step(t *testing.T, rnd *rand.Rand, p pair) {
	t.Helper()
	var got, want api.Errno
	f := someFile(rnd)
	switch rnd.Intn(12) {
	case 0, 1, 2, 3:
		at, s := rnd.Intn(420)-5, strings.Repeat(string(rune('a'+rnd.Intn(26))), rnd.Intn(4)*rnd.Intn(60))
		got, want = p.d.Write(f, at, s), p.m.write(f, at, s)
	case 4, 5:
		got, want = p.d.Sync(f), p.m.sync(f)
	case 6:
		size := rnd.Intn(300) - 5
		got, want = p.d.Truncate(f, size), p.m.truncate(f, size)
	case 7:
		n := rnd.Intn(5) - 2
		p.d.Lose(n)
		p.m.lost = max(n, 0)
	case 8:
		n, keep := rnd.Intn(9)-2, randomKeep(rnd)
		p.d.Arm(n, keep)
		p.m.armed, p.m.keep = max(n, 0), keep
	case 9:
		if keep := randomKeep(rnd); rnd.Intn(3) == 0 {
			p.d.Crash(keep)
			p.m.crash(keep)
		}
	case 10:
		p.d.Start()
		p.m.down = false
	case 11:
		at, size := rnd.Intn(420)-5, rnd.Intn(420)-5
		var s, wantS string
		s, got = p.d.Read(f, at, size)
		if wantS, want = p.m.read(f, at, size); s != wantS {
			t.Fatalf("Read(%d, %d, %d) = %q, not %q", f, at, size, s, wantS)
		}
	}
	if got != want {
		t.Fatalf("error %d, not %d", got, want)
	}
	checkPair(t, p)
}

// P2.1 to P2.4: whatever is called, a disk does what the model does, also after a crash of its copy.
func TestAsTheModel(t *testing.T) {
	rnd := rand.New(rand.NewSource(2))
	for range 1500 {
		p := pair{New(), &model{}}
		for range 40 {
			step(t, rnd, p)
			c := pair{p.d.Copy(), p.m.copy()}
			if rnd.Intn(8) == 0 {
				p, c = c, p // the copy goes on
			}
			keep := randomKeep(rnd)
			c.d.Crash(keep)
			c.m.crash(keep)
			checkPair(t, c)
			c.d.Start()
			c.m.down = false
			checkPair(t, c)
		}
	}
}

// history is a disk after many calls, with what was made durable of each file, and whether it was not written since.
type history struct {
	d       *Disk
	durable [16]string
	clean   [16]bool
}

// live performs calls that all succeed, at random.
func live(t *testing.T, rnd *rand.Rand) history {
	h := history{d: New()}
	for f := range h.clean {
		h.clean[f] = true
	}
	for range rnd.Intn(30) {
		f := rnd.Intn(4)
		switch rnd.Intn(6) {
		case 0:
			check(t, "Sync", h.d.Sync(f), api.OK)
		case 1:
			check(t, "Truncate", h.d.Truncate(f, h.d.Size(f)/(1+rnd.Intn(3))), api.OK)
		default:
			s := strings.Repeat(string(rune('a'+rnd.Intn(26))), 1+rnd.Intn(150))
			check(t, "Write", h.d.Write(f, rnd.Intn(400), s), api.OK)
			h.clean[f] = false
			continue
		}
		h.durable[f], h.clean[f] = content(t, h.d, f), true
	}
	return h
}

// byteOr returns a byte of a string, or 0 behind its end.
func byteOr(s string, i int) byte {
	if i < len(s) {
		return s[i]
	}
	return 0
}

// checkTorn checks the bytes of a file after a crash: each sector is wholly the one before, or wholly the durable one.
func checkTorn(t *testing.T, got, was, durable string) {
	t.Helper()
	if len(got) < len(durable) || len(got) > len(was) {
		t.Fatalf("%d bytes: the durable part had %d, the file %d", len(got), len(durable), len(was))
	}
	for from := 0; from < len(got); from += 64 {
		survived, lost := true, true
		for i := from; i < min(from+64, len(got)); i++ {
			survived = survived && got[i] == was[i]
			lost = lost && got[i] == byteOr(durable, i)
		}
		if !survived && !lost {
			t.Fatalf("the sector from %d on is torn: %q, of %q and %q", from, got, was, durable)
		}
	}
}

// P2.5, P2.6: what is left after crashes, and that what was synced is never touched, whatever survives.
func TestCrashesAtRandom(t *testing.T) {
	rnd := rand.New(rand.NewSource(3))
	for range 3000 {
		h := live(t, rnd)
		c := crashed(h.d, randomKeep(rnd)...)
		for f := range 16 {
			was, got := content(t, h.d, f), content(t, c, f)
			checkTorn(t, got, was, h.durable[f])
			if h.clean[f] && (got != was || was != h.durable[f]) {
				t.Fatalf("file %d was synced, but is %q, not %q", f, got, was)
			}
		}
	}
}

// P2.5: each sector survives or not, whichever others do: all subsets are possible.
func TestEverySubsetSurvives(t *testing.T) {
	d := with(t, strings.Repeat("a", 320))
	check(t, "Write", d.Write(0, 10, strings.Repeat("b", 300)), api.OK)
	was := content(t, d, 0)
	for set := range 32 {
		var keep []int
		want := ""
		for n := range 5 {
			keep = append(keep, set>>n&1)
			from := strings.Repeat("a", 320)
			if set>>n&1 == 1 {
				from = was
			}
			want += from[64*n : 64*n+64]
		}
		checkFile(t, "Crash", crashed(d, keep...), 0, want)
	}
}

// P2.5: Truncate is atomic: a crash that meets it leaves the file uncut.
func TestTruncateIsAtomic(t *testing.T) {
	for size := range 131 {
		d := with(t, strings.Repeat("a", 130))
		d.Write(0, 0, strings.Repeat("b", 64))
		d.Arm(1, []int{0})
		check(t, "Truncate", d.Truncate(0, size), api.ErrDown)
		d.Start()
		checkFile(t, "a crash meets Truncate", d, 0, strings.Repeat("a", 130))
		check(t, "Truncate", d.Truncate(0, size), api.OK)
		checkFile(t, "a crash after Truncate", crashed(d, 0), 0, strings.Repeat("a", size))
	}
}

// P2.6: bytes of a sector that were synced stay, although others of the same sector are written and torn.
func TestSyncedBytesStay(t *testing.T) {
	for at := range 200 {
		d := with(t, strings.Repeat("s", 200))
		check(t, "Write", d.Write(0, at, "w"), api.OK)
		check(t, "Write", d.Write(1, at, "w"), api.OK)
		for odd := range 2 {
			got := content(t, crashed(d, odd), 0)
			if len(got) != 200 || got[:at]+got[at+1:] != strings.Repeat("s", 199) || strings.Trim(got[at:at+1], "sw") != "" {
				t.Fatalf("%q", got)
			}
		}
	}
}
