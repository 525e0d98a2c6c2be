package lex

import (
	"math/big"
	"math/rand"
	"regexp"
	"slices"
	"strings"
	"testing"

	"greenbelt/api"
)

// These tests compare the package with expressions that describe the tokens, and check the laws of the chapter.

// form describes the tokens: a word, a number or a sign.
var form = regexp.MustCompile(`^(?:([a-z][a-z0-9]*)|([0-9]+)|<=|==|;|,|:|=|<|[+]|-|[*]|/|%|[(]|[)])`)

func init() { form.Longest() }

var (
	wordForm   = regexp.MustCompile(`^[a-z][a-z0-9]{0,19}$`)
	numberForm = regexp.MustCompile(`^(0|[1-9][0-9]*)$`)
)

// isWord follows the definition of valid words.
func isWord(s string) bool { return wordForm.MatchString(s) }

// valueOf follows the definition of valid numbers.
func valueOf(s string) (int, bool) {
	if !numberForm.MatchString(s) {
		return 0, false
	}
	n, _ := new(big.Int).SetString(s, 10)
	if n.Cmp(new(big.Int).Lsh(big.NewInt(1), 40)) > 0 {
		return 0, false
	}
	return int(n.Int64()), true
}

// model is Lex, for texts that are not too long.
func model(s string) ([]api.Token, int, api.Errno) {
	var l []api.Token
	for at := 0; at < len(s); at++ {
		if strings.IndexByte(allBlanks, s[at]) >= 0 {
			continue
		}
		m := form.FindStringSubmatchIndex(s[at:])
		if m == nil {
			return nil, at, api.ErrToken
		}
		text := s[at : at+m[1]]
		n, right := valueOf(text)
		switch {
		case m[2] >= 0 && !isWord(text):
			return nil, at, api.ErrName
		case m[2] >= 0:
			l = append(l, wordAt(at, text))
		case m[4] >= 0 && !right:
			return nil, at, api.ErrRange
		case m[4] >= 0:
			l = append(l, numberAt(at, text, n))
		default:
			l = append(l, signAt(at, text))
		}
		at += m[1] - 1
	}
	return append(l, endAt(len(s))), 0, api.OK
}

// checkModel compares what the package says of a string with the model.
func checkModel(t *testing.T, s string) {
	t.Helper()
	want, wantAt, wantE := model(s)
	if l, at, e := Lex(s); !slices.Equal(l, want) || at != wantAt || e != wantE {
		t.Fatalf("Lex(%q): %v, %d, %d, not %v, %d, %d", s, l, at, e, want, wantAt, wantE)
	}
	if Word(s) != isWord(s) {
		t.Fatalf("Word(%q)", s)
	}
	n, right := valueOf(s)
	checkNumber(t, s, n, right)
}

// every calls a function for all strings of at most n bytes of an alphabet.
func every(alphabet string, n int, f func(s string)) {
	b := make([]byte, 0, n)
	var longer func()
	longer = func() {
		f(string(b))
		for i := 0; i < len(alphabet) && len(b) < n; i++ {
			b = append(b, alphabet[i])
			longer()
			b = b[:len(b)-1]
		}
	}
	longer()
}

// somewhat returns a random text of pieces that are tokens, or nearly so; with faults it may have any bytes.
func somewhat(r *rand.Rand, pieces int, faults bool) string {
	var b strings.Builder
	for range pieces {
		switch k := r.Intn(12); {
		case k < 3:
			b.WriteString(strings.Repeat(string(allBlanks[r.Intn(3)]), 1+r.Intn(3)))
		case k < 6:
			b.WriteString([]string{"<=", "==", ";", ",", ":", "=", "<", "+", "-", "*", "/", "%", "(", ")"}[r.Intn(14)])
		case k < 8:
			b.WriteByte(allLetters[r.Intn(26)])
			for range r.Intn(20) {
				b.WriteByte((allLetters + allDigits)[r.Intn(36)])
			}
			b.WriteByte(' ')
		case k < 10 || !faults:
			b.WriteString(" " + decimal(r.Intn(most+1)>>r.Intn(41)))
		case k == 10:
			b.WriteString(strings.Repeat("y", 15+r.Intn(10)))
		default:
			b.WriteByte(byte(r.Intn(256)))
		}
	}
	return b.String()
}

// P14.1, P14.3: all strings of few bytes.
func TestModel(t *testing.T) {
	every("a0<= -!\n1z;A", 5, func(s string) { checkModel(t, s) })
	every("<=", 12, func(s string) { checkModel(t, s) })
	every("01a ", 7, func(s string) { checkModel(t, s) })
	var all []byte
	for b := range 256 {
		all = append(all, byte(b))
	}
	every(string(all), 2, func(s string) { checkModel(t, s) })
	every(allBlanks+allLetters+allDigits+shortSigns+"!>A_\x00\x80", 3, func(s string) { checkModel(t, s) })
}

// P14.1, P14.3: random texts, and their pieces.
func TestModelRandom(t *testing.T) {
	r := rand.New(rand.NewSource(1))
	for range 30000 {
		s := somewhat(r, 1+r.Intn(12), r.Intn(2) == 0)
		checkModel(t, s)
		from := r.Intn(len(s) + 1)
		checkModel(t, s[from:from+r.Intn(len(s)-from+1)])
	}
	for range 30000 {
		n := r.Intn(most+most/4) >> r.Intn(41)
		checkModel(t, decimal(n))
		checkModel(t, strings.Repeat("0", r.Intn(3))+decimal(n)+strings.Repeat("0", r.Intn(8)))
		checkModel(t, strings.Repeat(decimal(n), 1+r.Intn(3)))
	}
}

// moved returns tokens that are further behind.
func moved(l []api.Token, by int) []api.Token {
	l = slices.Clone(l)
	for i := range l {
		l[i].Pos += by
	}
	return l
}

// still returns tokens without their places.
func still(l []api.Token) []api.Token {
	l = slices.Clone(l)
	for i := range l {
		l[i].Pos = 0
	}
	return l
}

// checkAgain fails the test if P14.5 does not hold for a string, and reports whether it says something about it.
func checkAgain(t *testing.T, s string) bool {
	t.Helper()
	l, _, e := Lex(s)
	text := Text(l)
	if e != api.OK || len(text) > source {
		return false
	}
	again, at, e := Lex(text)
	if e != api.OK || at != 0 || !slices.Equal(still(again), still(l)) || Text(again) != text {
		t.Fatalf("%q: %v, of %q: %v, %d, %d", shown(s), l, shown(text), again, at, e)
	}
	return true
}

// checkPlaces fails the test if the tokens of a string are not in order, or leave anything but blanks between them; or,
// if it has an error, if there is one before it.
func checkPlaces(t *testing.T, s string) {
	t.Helper()
	l, at, e := Lex(s)
	if e == api.ErrFull {
		return
	}
	if e != api.OK {
		if _, _, e := Lex(s[:at]); e != api.OK {
			t.Fatalf("%q: an error before %d: %d", shown(s), at, e)
		}
		return
	}
	from := 0
	for _, k := range l {
		if k.Pos < from || strings.Trim(s[from:k.Pos], allBlanks) != "" || !strings.HasPrefix(s[k.Pos:], k.Text) {
			t.Fatalf("%q: %v", shown(s), l)
		}
		if (k.Kind == api.TkEnd) != (k.Text == "") || (k.Kind == api.TkEnd) != (k.Pos == len(s)) {
			t.Fatalf("%q: an end within it, or none: %v", shown(s), l)
		}
		from = k.Pos + len(k.Text)
	}
	if from != len(s) {
		t.Fatalf("%q: what is behind %d?", shown(s), from)
	}
}

// checkTogether fails the test if the tokens of two strings with a blank between them are not those of both.
func checkTogether(t *testing.T, s, blank, u string) {
	t.Helper()
	a, at, e := Lex(s)
	behind := len(s) + 1
	if e != api.OK {
		checkError(t, s+blank+u, at, e)
		return
	}
	b, at, e := Lex(u)
	if e != api.OK {
		checkError(t, s+blank+u, behind+at, e)
		return
	}
	checkTokens(t, s+blank+u, append(a[:len(a)-1], moved(b, behind)...))
}

// P14.5, P14.6: all strings of few bytes, and all pairs of them.
func TestLaws(t *testing.T) {
	var few []string
	said := 0
	every("a0<= ;!", 6, func(s string) {
		if checkAgain(t, s) {
			said++
		}
		checkPlaces(t, s)
		if len(s) <= 3 {
			few = append(few, s)
		}
	})
	if said < 10000 {
		t.Error("few texts without an error", said)
	}
	for _, s := range few {
		for i, u := range few {
			checkTogether(t, s, allBlanks[i%3:i%3+1], u)
		}
	}
}

// P14.5, P14.6: random texts, up to the greatest length.
func TestLawsRandom(t *testing.T) {
	r := rand.New(rand.NewSource(2))
	for i := range 20000 {
		pieces := 1 + r.Intn(20)
		if i%50 == 0 {
			pieces = 400 + r.Intn(600)
		}
		s, u := somewhat(r, pieces, i%3 == 0), somewhat(r, pieces, i%7 == 0)
		checkPlaces(t, s)
		if len(s) <= source && i%3 != 0 {
			if l, _, e := Lex(s); e != api.OK || checkAgain(t, s) != (len(Text(l)) <= source) {
				t.Fatalf("%q: %v, %d", shown(s), l, e)
			}
		}
		if len(s)+1+len(u) <= source {
			checkTogether(t, s, allBlanks[i%3:i%3+1], u)
		} else {
			checkError(t, s+" "+u, 0, api.ErrFull)
		}
	}
}

// P14.5, P14.6: texts at the greatest length: the text of tokens may be longer than what they come from.
func TestLawsLong(t *testing.T) {
	for _, n := range []int{1, 3998, 3999, 4000, 4001, 4002, 7999, source} {
		if s := strings.Repeat(";", n); checkAgain(t, s) != (n <= 4000) {
			t.Fatal("a text of signs", n)
		}
	}
	l, _, e := Lex(strings.Repeat("=", 7999))
	if text := Text(l); e != api.OK || len(l) != 4001 || len(text) != 7999+3999 || strings.Count(text, "==") != 3999 {
		t.Error("signs of two bytes", len(l), len(text))
	}
	for n := 2660; n <= 2670; n++ {
		s := strings.Repeat("==", n)
		if l, _, _ := Lex(s); len(l) != n+1 || checkAgain(t, s) != (3*n-1 <= source) {
			t.Fatal("signs of two bytes", n)
		}
	}
	if !checkAgain(t, "ab"+strings.Repeat(";", 3999)) || checkAgain(t, "abc"+strings.Repeat(";", 3999)) {
		t.Error("a text of exactly 8000 bytes, and one of 8001")
	}
	for _, n := range []int{0, 1, 20, 4000, 7978, 7979, 7998, 7999} {
		s, u := strings.Repeat("+", n), strings.Repeat("(", source-1-n)
		checkTogether(t, s, "\n", u)
		checkError(t, s+" \t"+u, 0, api.ErrFull)
		checkTogether(t, s, " ", strings.Repeat(" ", source-1-n))
	}
}
