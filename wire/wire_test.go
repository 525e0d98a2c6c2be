package wire

import (
	"math"
	"math/rand"
	"regexp"
	"slices"
	"strings"
	"testing"
)

// kind is a kind of value: again reads a value and returns its encoding, and form describes the encodings that are
// at most six bytes long and have no digit but 0, 1 and 2.
type kind struct {
	name  string
	again func(r *Reader) string
	form  string
}

const (
	numForm  = `(0|[12][0-2]*);`
	intForm  = `(0|-?[12][0-2]*);`
	textForm = `(0:,|1:.,|2:..,)`
)

func kinds() []kind {
	return []kind{
		{"Num", func(r *Reader) string { return Num(r.Num()) }, numForm},
		{"Int", func(r *Reader) string { return Int(r.Int()) }, intForm},
		{"Text", func(r *Reader) string { return Text(r.Text()) }, textForm},
		{"Nums", func(r *Reader) string { return Nums(r.Nums()) }, `(0\[\]|1\[` + intForm + `\])`},
		{"Texts", func(r *Reader) string { return Texts(r.Texts()) }, `(0\[\]|1\[` + textForm + `\])`},
	}
}

// edgeInts has ints at which the number of digits or the sign changes, and the limits.
func edgeInts() []int {
	l := []int{math.MinInt, math.MinInt + 1, math.MaxInt - 1, math.MaxInt}
	for p := 1; p > 0 && p <= math.MaxInt/10; p *= 10 {
		l = append(l, p-1, p, p+1, -p+1, -p, -p-1)
	}
	return l
}

// edgeTexts has strings that look like parts of encodings, and strings of all bytes.
func edgeTexts() []string {
	l := []string{"", ",", ":", ";", "]", "0:,", "1:a,", "2[1;-1;]", "0[]", "-", "3:a,b,", "\x00", "\xff\xfe", "größe", strings.Repeat("x", 10), strings.Repeat(",", 1000)}
	var all []byte
	for b := range 256 {
		all = append(all, byte(b))
		l = append(l, string([]byte{byte(b)}))
	}
	return append(l, string(all))
}

// checkFailed checks that a reader has failed, and goes on failing.
func checkFailed(t *testing.T, what string, r *Reader) {
	t.Helper()
	for range 2 {
		if r.Left() != 0 || r.Done() || r.Rest() != "" || r.Done() {
			t.Errorf("%s: has not failed", what)
		}
		if r.Num() != 0 || r.Int() != 0 || r.Text() != "" || len(r.Nums()) != 0 || len(r.Texts()) != 0 {
			t.Errorf("%s: reads after it has failed", what)
		}
	}
}

// P1.1: the encoding of a number, and nothing for a negative int.
func TestNum(t *testing.T) {
	for n, want := range map[int]string{0: "0;", 1: "1;", 9: "9;", 10: "10;", 300: "300;", math.MaxInt: "9223372036854775807;", -1: "", -300: "", math.MinInt: ""} {
		if got := Num(n); got != want {
			t.Errorf("Num(%d) = %q, not %q", n, got, want)
		}
	}
}

// P1.1: the encoding of an int.
func TestInt(t *testing.T) {
	for n, want := range map[int]string{0: "0;", 7: "7;", -7: "-7;", 100: "100;", -100: "-100;", math.MaxInt: "9223372036854775807;", math.MinInt: "-9223372036854775808;"} {
		if got := Int(n); got != want {
			t.Errorf("Int(%d) = %q, not %q", n, got, want)
		}
	}
}

// P1.1: the encoding of a string has its length in bytes.
func TestText(t *testing.T) {
	for s, want := range map[string]string{"": "0:,", "a,b": "3:a,b,", ",": "1:,,", "ä": "2:ä,", "\x00\xff": "2:\x00\xff,", strings.Repeat("a", 12): "12:aaaaaaaaaaaa,"} {
		if got := Text(s); got != want {
			t.Errorf("Text(%q) = %q, not %q", s, got, want)
		}
	}
}

// P1.1: the encodings of lists. The elements of Nums are ints, which may be negative.
func TestLists(t *testing.T) {
	nums := []struct {
		l    []int
		want string
	}{
		{nil, "0[]"},
		{[]int{}, "0[]"},
		{[]int{0}, "1[0;]"},
		{[]int{1, -1}, "2[1;-1;]"},
		{[]int{math.MinInt, math.MaxInt}, "2[-9223372036854775808;9223372036854775807;]"},
		{make([]int, 11), "11[" + strings.Repeat("0;", 11) + "]"},
	}
	for _, c := range nums {
		if got := Nums(c.l); got != c.want {
			t.Errorf("Nums(%v) = %q, not %q", c.l, got, c.want)
		}
	}
	texts := []struct {
		l    []string
		want string
	}{
		{nil, "0[]"},
		{[]string{}, "0[]"},
		{[]string{""}, "1[0:,]"},
		{[]string{"", "x"}, "2[0:,1:x,]"},
		{[]string{"]", "1[0:,]"}, "2[1:],6:1[0:,],]"},
	}
	for _, c := range texts {
		if got := Texts(c.l); got != c.want {
			t.Errorf("Texts(%q) = %q, not %q", c.l, got, c.want)
		}
	}
}

// P1.2: values are read in order, and Left, Rest and Done follow the position.
func TestReadInOrder(t *testing.T) {
	r := Open("12;-12;3:a,b,2[1;-1;]2[0:,1:x,]0[]0[]tail")
	if n := r.Num(); n != 12 {
		t.Errorf("Num() = %d", n)
	}
	if n := r.Int(); n != -12 {
		t.Errorf("Int() = %d", n)
	}
	if n := r.Left(); n != len("3:a,b,2[1;-1;]2[0:,1:x,]0[]0[]tail") {
		t.Errorf("Left() = %d", n)
	}
	if s := r.Text(); s != "a,b" {
		t.Errorf("Text() = %q", s)
	}
	if l := r.Nums(); !slices.Equal(l, []int{1, -1}) {
		t.Errorf("Nums() = %v", l)
	}
	if l := r.Texts(); !slices.Equal(l, []string{"", "x"}) {
		t.Errorf("Texts() = %q", l)
	}
	if len(r.Nums()) != 0 || len(r.Texts()) != 0 || r.Left() != 4 || r.Done() {
		t.Errorf("after empty lists: Left() = %d, Done() = %v", r.Left(), r.Done())
	}
	if s := r.Rest(); s != "tail" {
		t.Errorf("Rest() = %q", s)
	}
	if r.Left() != 0 || !r.Done() || r.Rest() != "" || !r.Done() {
		t.Error("not done after Rest")
	}
	r.Int()
	checkFailed(t, "after the end", r)
}

// P1.2: an empty string has no value, but all of it has been read.
func TestReadNothing(t *testing.T) {
	if r := Open(""); !r.Done() || r.Left() != 0 || r.Rest() != "" || !r.Done() {
		t.Error("an empty string is not done")
	}
	for _, k := range kinds() {
		r := Open("")
		k.again(r)
		checkFailed(t, k.name, r)
	}
}

// P1.2: what is no encoding of a number fails.
func TestReadNoNum(t *testing.T) {
	for _, s := range []string{";", "1", "007;", "00;", "01;", "-1;", "-0;", "-;", "+1;", "/;", "1/;", "1:;", " 1;", "1 ;", "1,", "1:", "1_0;", "0x1;", "1.0;", "a;", "\xd9\xa1;", "9223372036854775808;", "18446744073709551615;", "18446744073709551616;", "18446744073709551617;", strings.Repeat("9", 1000) + ";", strings.Repeat("0", 30) + ";"} {
		r := Open(s)
		if n := r.Num(); n != 0 {
			t.Errorf("Num() of %q = %d", s, n)
		}
		checkFailed(t, s, r)
	}
}

// P1.2: what is no encoding of an int fails.
func TestReadNoInt(t *testing.T) {
	for _, s := range []string{";", "1", "-", "-;", "-1", "-0;", "-00;", "-01;", "00;", "01;", "--1;", "+1;", "- 1;", "1-;", "-1:", "9223372036854775808;", "-9223372036854775809;", "18446744073709551617;", "-18446744073709551617;", "-" + strings.Repeat("9", 1000) + ";"} {
		r := Open(s)
		if n := r.Int(); n != 0 {
			t.Errorf("Int() of %q = %d", s, n)
		}
		checkFailed(t, s, r)
	}
}

// P1.2: what is no encoding of a string fails, also if its length is greater than what is left.
func TestReadNoText(t *testing.T) {
	for _, s := range []string{":", ",", "0", "0:", "0,", "0;,", "1:", "1:a", "1:,", "1:a;", "1:ab", "2:a,", "3:a,", "-1:a,", "-0:,", "00:,", "01:a,", "9223372036854775806:a,", "9223372036854775807:a,", "9223372036854775808:a,", "18446744073709551616:,", "18446744073709551617:a,"} {
		r := Open(s)
		if got := r.Text(); got != "" {
			t.Errorf("Text() of %q = %q", s, got)
		}
		checkFailed(t, s, r)
	}
}

// P1.2: what is no encoding of a list fails, also after elements that could be read.
func TestReadNoList(t *testing.T) {
	for _, s := range []string{"[", "[]", "0", "0[", "0]", "0[,", "00[]", "-0[]", "-1[]", "1[]", "0[1;]", "0[0:,]", "1[1;", "1[1;,", "1[1;2;]", "1[1:a,", "1[1:a,;", "1[1:a,0:,]", "2[1;]", "2[1:a,]", "2[1;01;]", "2[1:a,01:a,]", "1[2[1;1;]]", "9223372036854775807[1;1;]", "9223372036854775807[0:,]", "9223372036854775808[]", "18446744073709551616[]"} {
		r := Open(s)
		if l := r.Nums(); len(l) != 0 {
			t.Errorf("Nums() of %q = %v", s, l)
		}
		checkFailed(t, s, r)
		r = Open(s)
		if l := r.Texts(); len(l) != 0 {
			t.Errorf("Texts() of %q = %q", s, l)
		}
		checkFailed(t, s, r)
	}
	if r := Open("1[0:,]"); len(r.Nums()) != 0 || r.Done() {
		t.Error("a list of strings was read as one of ints")
	}
	if r := Open("1[0;]"); len(r.Texts()) != 0 || r.Done() {
		t.Error("a list of ints was read as one of strings")
	}
}

// P1.2: a call that fails leaves nothing to read, even if an encoding stands after it.
func TestFailedReaderStays(t *testing.T) {
	for _, s := range []string{"x1;", "-1;1;", "1:ab1;", "1[x;]1;", "01;1;"} {
		r := Open(s)
		r.Num()
		checkFailed(t, s, r)
	}
	r := Open("1;")
	r.Text()
	checkFailed(t, "a number read as a string", r)
}

// P1.3, P3: arguments stay as they are, beyond their length, too.
func TestArgumentsStay(t *testing.T) {
	nums, texts := []int{1, -2, 3}, []string{"a", "b", "c"}
	Nums(nums[:2])
	Texts(texts[:2])
	if !slices.Equal(nums, []int{1, -2, 3}) || !slices.Equal(texts, []string{"a", "b", "c"}) {
		t.Errorf("changed: %v %q", nums, texts)
	}
	if Nums(nums[:2]) != "2[1;-2;]" || Texts(texts[:1]) != "1[1:a,]" {
		t.Error("elements beyond the length were read")
	}
}

// P1.3, P3: the lists that are read share no memory with each other, or with the reader.
func TestResultsAreFresh(t *testing.T) {
	one := Nums([]int{1, 2, 3}) + Texts([]string{"a", "b"})
	r := Open(one + one + one)
	first, names := r.Nums(), r.Texts()
	second, others := r.Nums(), r.Texts()
	first[0], names[0] = 9, "z"
	first, names = append(first[:1], 8), append(names[:1], "y")
	if !slices.Equal(second, []int{1, 2, 3}) || !slices.Equal(others, []string{"a", "b"}) {
		t.Errorf("lists share memory: %v %q", second, others)
	}
	if !slices.Equal(r.Nums(), []int{1, 2, 3}) || !slices.Equal(r.Texts(), []string{"a", "b"}) || !r.Done() {
		t.Errorf("lists share memory with the reader: %v %q", first, names)
	}
}

// P4: readers of the same string do not disturb each other, and read the same.
func TestReadersAreApart(t *testing.T) {
	a, b := Open("1;2;"), Open("1;2;")
	if a.Num() != 1 || a.Num() != 2 || a.Num() != 0 || a.Done() {
		t.Error("the first reader")
	}
	if b.Left() != 4 || b.Num() != 1 || b.Num() != 2 || !b.Done() {
		t.Error("the second reader")
	}
}

// P1.4: reading inverts writing, whatever stands after the encoding.
func TestReadInvertsWrite(t *testing.T) {
	tails := []string{"", "0;", "1", ";", ",", "]", ":", "-", "\x00"}
	for _, tail := range tails {
		for _, n := range edgeInts() {
			if r := Open(Int(n) + tail); r.Int() != n || r.Rest() != tail || !r.Done() {
				t.Errorf("Int %d before %q", n, tail)
			}
			if r := Open(Num(n) + tail); n >= 0 && (r.Num() != n || r.Rest() != tail || !r.Done()) {
				t.Errorf("Num %d before %q", n, tail)
			}
		}
		for _, s := range edgeTexts() {
			if r := Open(Text(s) + tail); r.Text() != s || r.Rest() != tail || !r.Done() {
				t.Errorf("Text %q before %q", s, tail)
			}
		}
		if r := Open(Nums(edgeInts()) + tail); !slices.Equal(r.Nums(), edgeInts()) || r.Rest() != tail || !r.Done() {
			t.Errorf("Nums before %q", tail)
		}
		if r := Open(Texts(edgeTexts()) + tail); !slices.Equal(r.Texts(), edgeTexts()) || r.Rest() != tail || !r.Done() {
			t.Errorf("Texts before %q", tail)
		}
	}
}

// P1.4: the same for many values of all lengths.
func TestReadInvertsWriteAtRandom(t *testing.T) {
	rnd := rand.New(rand.NewSource(1))
	var nums []int
	var texts []string
	for range 3000 {
		n := int(rnd.Uint64()) >> rnd.Intn(64)
		s := make([]byte, rnd.Intn(40))
		rnd.Read(s)
		nums, texts = append(nums, n), append(texts, string(s))
		if r := Open(Int(n) + Text(string(s))); r.Int() != n || r.Text() != string(s) || !r.Done() {
			t.Fatalf("%d and %q", n, s)
		}
	}
	if r := Open(Texts(texts) + Nums(nums)); !slices.Equal(r.Texts(), texts) || !slices.Equal(r.Nums(), nums) || !r.Done() {
		t.Error("long lists")
	}
}

// P1.2, P1.4: of all strings of up to six bytes, those are read that begin with an encoding, and exactly its bytes.
func TestReadAllShortStrings(t *testing.T) {
	const bytes = "012-:;,[]"
	for _, k := range kinds() {
		form := regexp.MustCompile(`\A` + k.form)
		var look func(s string)
		look = func(s string) {
			checkShort(t, k, s, form.FindString(s))
			for i := 0; i < len(bytes) && len(s) < 6; i++ {
				look(s + bytes[i:i+1])
			}
		}
		look("")
	}
}

// checkShort checks that a string that begins with the encoding want is read as it, or fails if want is empty.
func checkShort(t *testing.T, k kind, s, want string) {
	r := Open(s)
	got := k.again(r)
	if want == "" {
		if r.Done() || r.Left() != 0 || got != k.again(Open("")) {
			t.Fatalf("%s of %q: reads %q, %d bytes left", k.name, s, got, r.Left())
		}
		return
	}
	if got != want || r.Left() != len(s)-len(want) || r.Rest() != s[len(want):] || !r.Done() {
		t.Fatalf("%s of %q: reads %q, not %q", k.name, s, got, want)
	}
}

// P1.4: no encoding is a prefix of another one of the same kind.
func TestNoPrefix(t *testing.T) {
	var nums, ints, texts, lists, names []string
	for _, n := range edgeInts() {
		if n >= 0 {
			nums = append(nums, Num(n))
		}
		ints = append(ints, Int(n))
		lists = append(lists, Nums([]int{n}), Nums([]int{n, n}))
	}
	for _, s := range edgeTexts() {
		texts = append(texts, Text(s))
		names = append(names, Texts([]string{s}), Texts([]string{s, s}))
	}
	for _, l := range [][]string{nums, ints, texts, append(lists, Nums(nil)), append(names, Texts(nil))} {
		// In the sorted order a prefix stands directly before some string that it begins.
		slices.Sort(l)
		l = slices.Compact(l)
		for i := 1; i < len(l); i++ {
			if strings.HasPrefix(l[i], l[i-1]) {
				t.Errorf("%q begins with %q", l[i], l[i-1])
			}
		}
	}
}

// P1.4: different values have different encodings.
func TestOneEncodingEach(t *testing.T) {
	seen := map[string]int{}
	for _, n := range edgeInts() {
		if m, ok := seen[Int(n)]; ok && m != n {
			t.Errorf("%d and %d are both %q", m, n, Int(n))
		}
		seen[Int(n)] = n
	}
	if Nums([]int{1, 1}) == Nums([]int{11}) || Texts([]string{"a", "b"}) == Texts([]string{"ab"}) || Texts([]string{""}) == Texts(nil) {
		t.Error("different lists have one encoding")
	}
}

// P1.5: encodings can be concatenated, and nested to any depth.
func TestNesting(t *testing.T) {
	inner := Text("a,b") + Nums([]int{1, -1}) + Texts([]string{"", "0:,", "]"}) + Int(-7)
	deep := inner
	for range 50 {
		deep = Text(deep)
	}
	r := Open(deep + Texts([]string{inner, Nums(nil), deep}) + inner)
	s := r.Text()
	for range 49 {
		s = Open(s).Text()
	}
	if s != inner {
		t.Errorf("the innermost string is %q", s)
	}
	if l := r.Texts(); !slices.Equal(l, []string{inner, "0[]", deep}) {
		t.Errorf("a list of encodings is read as %q", l)
	}
	if r.Text() != "a,b" || !slices.Equal(r.Nums(), []int{1, -1}) || !slices.Equal(r.Texts(), []string{"", "0:,", "]"}) || r.Int() != -7 || !r.Done() {
		t.Error("the encodings after it")
	}
}

// P1: no input makes a reader panic, or read on without end.
func TestNoPanic(t *testing.T) {
	const bytes = "0123456789-:;,[]a\x00\xff"
	rnd := rand.New(rand.NewSource(2))
	for range 20000 {
		s := make([]byte, rnd.Intn(30))
		for i := range s {
			s[i] = bytes[rnd.Intn(len(bytes))]
		}
		r, l := Open(string(s)), kinds()
		for left := r.Left(); left > 0; {
			got := l[rnd.Intn(len(l))].again(r)
			if r.Left() == 0 {
				break
			}
			if r.Left() != left-len(got) {
				t.Fatalf("%q: reads %q, %d bytes left of %d", s, got, r.Left(), left)
			}
			left = r.Left()
		}
	}
}
