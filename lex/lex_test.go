package lex

import (
	"math"
	"reflect"
	"slices"
	"strings"
	"testing"

	"greenbelt/api"
)

const (
	most    = 1099511627776 // 2^40, the greatest number
	longest = 20            // bytes of a word
	source  = 8000          // bytes of a source text
)

// These make tokens.
func wordAt(pos int, s string) api.Token {
	return api.Token{Kind: api.TkWord, Text: s, Pos: pos}
}

func numberAt(pos int, s string, n int) api.Token {
	return api.Token{Kind: api.TkNumber, Text: s, N: n, Pos: pos}
}

func signAt(pos int, s string) api.Token {
	return api.Token{Kind: api.TkSign, Text: s, Pos: pos}
}

func endAt(pos int) api.Token { return api.Token{Kind: api.TkEnd, Pos: pos} }

// list makes a list of tokens.
func list(l ...api.Token) []api.Token { return l }

// shown returns what a message shows of a string.
func shown(s string) string {
	if len(s) > 100 {
		return s[:50] + " ... " + s[len(s)-50:]
	}
	return s
}

// checkTokens fails the test if a string has other tokens.
func checkTokens(t *testing.T, s string, want []api.Token) {
	t.Helper()
	if l, at, e := Lex(s); !slices.Equal(l, want) || at != 0 || e != api.OK {
		t.Fatalf("Lex(%q): %v, %d, %d, not %v", shown(s), l, at, e, want)
	}
}

// checkError fails the test if a string has another error, or none.
func checkError(t *testing.T, s string, at int, want api.Errno) {
	t.Helper()
	if l, n, e := Lex(s); len(l) != 0 || n != at || e != want {
		t.Fatalf("Lex(%q): %v, %d, %d, not %d, %d", shown(s), l, n, e, at, want)
	}
}

// checkNumber fails the test if Number returns anything else.
func checkNumber(t *testing.T, s string, want int, right bool) {
	t.Helper()
	if n, is := Number(s); n != want || is != right {
		t.Fatalf("Number(%q): %d, %v, not %d, %v", shown(s), n, is, want, right)
	}
}

// The rows of the chapter's table, and its blanks, byte by byte.
const (
	allBlanks  = "\x09\x0a\x20"
	allLetters = "abcdefghijklmnopqrstuvwxyz"
	allDigits  = "0123456789"
	shortSigns = ";,:=<+-*/%()"
)

// The examples of the chapter.
func TestExamples(t *testing.T) {
	checkError(t, "a1<=007", 4, api.ErrRange)
	checkTokens(t, "x <= 12a", list(wordAt(0, "x"), signAt(2, "<="), numberAt(5, "12", 12), wordAt(7, "a"), endAt(8)))
	checkError(t, "a !", 2, api.ErrToken)
	l, _, _ := Lex("a=b ;")
	if s := Text(l); s != "a = b ;" {
		t.Error(s)
	}
	if !Word("a1") || Word("1a") {
		t.Error("words")
	}
	checkNumber(t, "12", 12, true)
	checkNumber(t, "012", 0, false)
}

// P14.1: what each byte begins, alone and behind a token that does not go on with it.
func TestBytes(t *testing.T) {
	for b := range 256 {
		s := string([]byte{byte(b)})
		switch {
		case strings.Contains(allBlanks, s):
			checkTokens(t, s, list(endAt(1)))
			checkTokens(t, "="+s+"<", list(signAt(0, "="), signAt(2, "<"), endAt(3)))
		case strings.Contains(allLetters, s):
			checkTokens(t, s, list(wordAt(0, s), endAt(1)))
			checkTokens(t, "+"+s+"*", list(signAt(0, "+"), wordAt(1, s), signAt(2, "*"), endAt(3)))
			checkTokens(t, "a"+s+"*", list(wordAt(0, "a"+s), signAt(2, "*"), endAt(3)))
			checkTokens(t, "9"+s+"*", list(numberAt(0, "9", 9), wordAt(1, s), signAt(2, "*"), endAt(3)))
		case strings.Contains(allDigits, s):
			checkTokens(t, s, list(numberAt(0, s, b-'0'), endAt(1)))
			checkTokens(t, "+"+s+"*", list(signAt(0, "+"), numberAt(1, s, b-'0'), signAt(2, "*"), endAt(3)))
			checkTokens(t, "a"+s+"*", list(wordAt(0, "a"+s), signAt(2, "*"), endAt(3)))
			checkTokens(t, "9"+s+"*", list(numberAt(0, "9"+s, 90+b-'0'), signAt(2, "*"), endAt(3)))
		case strings.Contains(shortSigns, s):
			checkTokens(t, s, list(signAt(0, s), endAt(1)))
			checkTokens(t, "+"+s+"*", list(signAt(0, "+"), signAt(1, s), signAt(2, "*"), endAt(3)))
			checkTokens(t, "a"+s+"7", list(wordAt(0, "a"), signAt(1, s), numberAt(2, "7", 7), endAt(3)))
			checkTokens(t, "7"+s+"a", list(numberAt(0, "7", 7), signAt(1, s), wordAt(2, "a"), endAt(3)))
		default:
			checkError(t, s, 0, api.ErrToken)
			checkError(t, "a"+s, 1, api.ErrToken)
			checkError(t, "12"+s+"a", 2, api.ErrToken)
			checkError(t, " \t\n;"+s, 4, api.ErrToken)
			checkError(t, "<"+s+"=", 1, api.ErrToken)
		}
	}
}

// P14.1: the longest token, wherever several could begin.
func TestLongest(t *testing.T) {
	checkTokens(t, "<==", list(signAt(0, "<="), signAt(2, "="), endAt(3)))
	checkTokens(t, "<<=", list(signAt(0, "<"), signAt(1, "<="), endAt(3)))
	checkTokens(t, "===", list(signAt(0, "=="), signAt(2, "="), endAt(3)))
	checkTokens(t, "====", list(signAt(0, "=="), signAt(2, "=="), endAt(4)))
	checkTokens(t, "=<=", list(signAt(0, "="), signAt(1, "<="), endAt(3)))
	checkTokens(t, "==<", list(signAt(0, "=="), signAt(2, "<"), endAt(3)))
	checkTokens(t, "< =", list(signAt(0, "<"), signAt(2, "="), endAt(3)))
	checkTokens(t, "=\n=", list(signAt(0, "="), signAt(2, "="), endAt(3)))
	checkTokens(t, "a=b", list(wordAt(0, "a"), signAt(1, "="), wordAt(2, "b"), endAt(3)))
	checkTokens(t, "ab12cd", list(wordAt(0, "ab12cd"), endAt(6)))
	checkTokens(t, "12ab", list(numberAt(0, "12", 12), wordAt(2, "ab"), endAt(4)))
	checkTokens(t, "ab 12", list(wordAt(0, "ab"), numberAt(3, "12", 12), endAt(5)))
	checkTokens(t, "1 2", list(numberAt(0, "1", 1), numberAt(2, "2", 2), endAt(3)))
	checkTokens(t, "a\tb", list(wordAt(0, "a"), wordAt(2, "b"), endAt(3)))
	checkTokens(t, "-5", list(signAt(0, "-"), numberAt(1, "5", 5), endAt(2)))
	checkTokens(t, "a0", list(wordAt(0, "a0"), endAt(2)))
	checkTokens(t, "a007 0b", list(wordAt(0, "a007"), numberAt(5, "0", 0), wordAt(6, "b"), endAt(7)))
	checkTokens(t, "--++((", list(signAt(0, "-"), signAt(1, "-"), signAt(2, "+"), signAt(3, "+"), signAt(4, "("), signAt(5, "("), endAt(6)))
}

// P14.1: texts without tokens, and blanks around and between tokens.
func TestBlanks(t *testing.T) {
	for _, s := range []string{"", " ", "\t", "\n", "  ", "\n\n\t \n", strings.Repeat("\t\n ", 800)} {
		n := len(s)
		checkTokens(t, s, list(endAt(n)))
		checkTokens(t, s+"a:1"+s, list(wordAt(n, "a"), signAt(n+1, ":"), numberAt(n+2, "1", 1), endAt(2*n+3)))
		checkTokens(t, "<="+s+"b2"+s+"(", list(signAt(0, "<="), wordAt(n+2, "b2"), signAt(2*n+4, "("), endAt(2*n+5)))
	}
}

// P14.1, P14.3: words of all lengths around the greatest one.
func TestWordLengths(t *testing.T) {
	for n := 1; n < 60; n++ {
		for _, s := range []string{strings.Repeat("a", n), strings.Repeat("z", n), "q" + strings.Repeat("7", n-1), strings.Repeat("b0y9", 15)[:n]} {
			if Word(s) != (n <= longest) {
				t.Fatal(s, n)
			}
			if n <= longest {
				checkTokens(t, s, list(wordAt(0, s), endAt(n)))
				checkTokens(t, "0"+s+"=", list(numberAt(0, "0", 0), wordAt(1, s), signAt(n+1, "="), endAt(n+2)))
			} else {
				checkError(t, s, 0, api.ErrName)
				checkError(t, "0"+s+"!", 1, api.ErrName)
			}
		}
	}
}

// P14.1: of several errors the first one decides, and a text that is too long comes before all.
func TestFirstError(t *testing.T) {
	word, zeros, much, sign := strings.Repeat("w", longest+1), "00", "1099511627777", ">"
	checkError(t, word+" "+zeros+" "+sign, 0, api.ErrName)
	checkError(t, zeros+word+sign, 0, api.ErrRange)
	checkError(t, much+word+sign, 0, api.ErrRange)
	checkError(t, sign+word+zeros, 0, api.ErrToken)
	checkError(t, sign+zeros+word, 0, api.ErrToken)
	checkError(t, word+sign+zeros, 0, api.ErrName)
	checkError(t, zeros+sign+word, 0, api.ErrRange)
	checkError(t, "a 1 "+sign+" "+word, 4, api.ErrToken)
	checkError(t, "a 1 "+word+" "+sign, 4, api.ErrName)
	checkError(t, "a 1 "+much+" "+sign, 4, api.ErrRange)
	checkError(t, "a\xff"+word, 1, api.ErrToken)
	checkError(t, "aB", 1, api.ErrToken)
	checkError(t, "größe", 2, api.ErrToken)
	checkError(t, "a_b", 1, api.ErrToken)
	checkError(t, "1.5", 1, api.ErrToken)
	checkError(t, "1_0", 1, api.ErrToken)
	checkError(t, "<>", 1, api.ErrToken)
	checkError(t, "!=", 0, api.ErrToken)
	checkError(t, "\u00a0", 0, api.ErrToken)
	for _, s := range []string{sign, word, zeros, much} {
		checkError(t, s+strings.Repeat(" ", source+1-len(s)), 0, api.ErrFull)
		checkError(t, strings.Repeat(" ", source+1-len(s))+s, 0, api.ErrFull)
	}
}

// P14.1: texts of exactly 8000 bytes, and of one more.
func TestSourceLengths(t *testing.T) {
	blank := strings.Repeat(" ", source)
	checkTokens(t, blank, list(endAt(source)))
	checkTokens(t, blank[:source-1]+"x", list(wordAt(source-1, "x"), endAt(source)))
	checkTokens(t, "8"+blank[:source-1], list(numberAt(0, "8", 8), endAt(source)))
	checkTokens(t, blank[:source-2]+"<=", list(signAt(source-2, "<="), endAt(source)))
	checkError(t, blank[:source-1]+"!", source-1, api.ErrToken)
	checkError(t, blank[:source-21]+strings.Repeat("a", 21), source-21, api.ErrName)
	checkError(t, blank[:source-2]+"01", source-2, api.ErrRange)
	checkError(t, strings.Repeat("a", source), 0, api.ErrName)
	checkError(t, strings.Repeat("9", source), 0, api.ErrRange)
	checkError(t, strings.Repeat("0", source), 0, api.ErrRange)
	for _, n := range []int{source + 1, source + 2, 2 * source, 1 << 16, 1<<16 + source, 10000000} {
		for _, s := range []string{" ", "a", "0", "9", ";", "!", "\xff"} {
			checkError(t, strings.Repeat(s, n), 0, api.ErrFull)
		}
	}
	var many []api.Token
	for i := range source {
		many = append(many, signAt(i, ";"))
	}
	checkTokens(t, strings.Repeat(";", source), append(many, endAt(source)))
}

// P14.1, P14.3: numbers around the greatest one, and those that would be small if they wrapped around.
func TestNumberRange(t *testing.T) {
	for _, c := range []struct {
		s string
		n int
	}{{"0", 0}, {"1", 1}, {"9", 9}, {"10", 10}, {"100", 100}, {"8000", 8000}, {"4294967295", 4294967295}, {"4294967296", 4294967296}, {"999999999999", 999999999999}, {"1000000000000", 1000000000000}, {"1099511627775", most - 1}, {"1099511627776", most}} {
		checkNumber(t, c.s, c.n, true)
		checkTokens(t, c.s, list(numberAt(0, c.s, c.n), endAt(len(c.s))))
		checkTokens(t, "a "+c.s+"a", list(wordAt(0, "a"), numberAt(2, c.s, c.n), wordAt(2+len(c.s), "a"), endAt(3+len(c.s))))
	}
	for _, s := range []string{
		"00", "01", "007", "0000000000000000000000001", "01099511627776", "1099511627777", "1099511627778", "1099511627780", "1099511627786", "1999999999999", "9999999999999", "10000000000000", "10995116277760", "2199023255552",
		"9223372036854775807", "9223372036854775808", "18446744073709551615", "18446744073709551616", "18446744073709551617", "184467440737095516160", "36893488147419103233",
		"340282366920938463463374607431768211457", strings.Repeat("9", 400), "1" + strings.Repeat("0", 64), "1" + strings.Repeat("0", 7000), strings.Repeat("0", 7000),
	} {
		checkNumber(t, s, 0, false)
		checkError(t, s, 0, api.ErrRange)
		checkError(t, "a "+s+"!", 2, api.ErrRange)
	}
}

// P14.3: strings that are not a number as a whole.
func TestNotNumbers(t *testing.T) {
	for _, s := range []string{
		"", " ", "a", "a1", "1a", "-", "+", "-1", "+1", "-0", "+0", " 1", "1 ", "\t1", "1\n", "1 2", "1;", ";1", "1_0", "1,0", "1.0", "1e3", "0x1", "0b1", "0o7", "0_0", "1/1", "1:", "--1", "\x00", "1\x00", "\x001", "\xff", "1\xff",
		"٣", "1٣", "１", "1099511627776 ", "-1099511627776", "+1099511627776", "999999999999999999999999a", "-99999999999999999999999999", "9223372036854775807 ", "-9223372036854775808", strings.Repeat(" ", 30) + "1", strings.Repeat("1", 10) + strings.Repeat(" ", 20),
	} {
		checkNumber(t, s, 0, false)
	}
	checkNumber(t, strings.Repeat("1", 10000000), 0, false)
	checkNumber(t, strings.Repeat("a", 10000000), 0, false)
}

// P14.3: all numbers with few digits, with and without zeros before them, and some around powers.
func TestNumbers(t *testing.T) {
	for n := range 20000 {
		s := decimal(n)
		checkNumber(t, s, n, true)
		checkNumber(t, "0"+s, 0, false)
		checkNumber(t, "-"+s, 0, false)
		checkNumber(t, "+"+s, 0, false)
	}
	for p := 1; p <= math.MaxInt/10; p *= 10 {
		for d := -3; d <= 3; d++ {
			if n := p + d; n >= 0 && n <= most {
				checkNumber(t, decimal(n), n, true)
			} else if n > most {
				checkNumber(t, decimal(n), 0, false)
			}
		}
	}
	for p := range 63 {
		for d := -3; d <= 3; d++ {
			if n := 1<<p + d; n >= 0 && n <= most {
				checkNumber(t, decimal(n), n, true)
			} else if n > most {
				checkNumber(t, decimal(n), 0, false)
			}
		}
	}
}

// decimal writes a number that is not negative, digit by digit.
func decimal(n int) string {
	if n < 10 {
		return allDigits[n : n+1]
	}
	return decimal(n/10) + decimal(n%10)
}

// P14.3: strings that are a word as a whole, and others.
func TestWord(t *testing.T) {
	for _, s := range []string{"a", "z", "m", "a0", "a9", "z0z", "if", "rule", "end", "abcdefghijklmnopqrst", "uvwxyz0123456789", "a0000000000000000000"} {
		if !Word(s) {
			t.Errorf("%q is a word", s)
		}
	}
	for _, s := range []string{
		"", " ", "0", "9", "1a", "12", "A", "aB", "Ab", "a b", " a", "a ", "\ta", "a\n", "a_b", "_a", "a-1", "a;", ";a", "<=", ";", "`", "{", "a`", "a{", "a/", "a:", "/a", ":a", "@", "[", "\x00", "a\x00", "\xff", "a\xff", "aé", "é", "ａ", "1" + strings.Repeat("a", 19),
		"abcdefghijklmnopqrstu", "abcdefghijklmnopqrst ", strings.Repeat("a", 10) + " " + strings.Repeat("a", 9),
	} {
		if Word(s) {
			t.Errorf("%q is no word", s)
		}
	}
	if Word(strings.Repeat("a", 10000000)) {
		t.Error("a long word")
	}
	for b := range 256 {
		s := string([]byte{byte(b)})
		first := strings.Contains(allLetters, s)
		later := first || strings.Contains(allDigits, s)
		if Word(s) != first || Word(s+"a") != first || Word("a"+s) != later || Word("a"+s+"1") != later {
			t.Errorf("%q", s)
		}
	}
}

// P14.2: elements of all kinds, with any texts.
func TestText(t *testing.T) {
	of := func(kind int, s string) api.Token { return api.Token{Kind: kind, Text: s} }
	for i, c := range []struct {
		l    []api.Token
		want string
	}{
		{nil, ""},
		{list(), ""},
		{list(endAt(0)), ""},
		{list(of(api.TkEnd, "x"), endAt(7), of(api.TkEnd, "y")), ""},
		{list(wordAt(0, "a")), "a"},
		{list(wordAt(0, "a"), endAt(1)), "a"},
		{list(wordAt(9, "a"), signAt(3, "<="), numberAt(-5, "7", 8)), "a <= 7"},
		{list(of(api.TkEnd, "x"), wordAt(0, "a"), of(api.TkEnd, "y"), wordAt(0, "b"), of(api.TkEnd, "z")), "a b"},
		{list(of(api.TkWord, ""), of(api.TkNumber, "")), " "},
		{list(of(api.TkSign, "")), ""},
		{list(of(api.TkSign, ""), endAt(0), of(api.TkWord, ""), of(api.TkWord, "")), "  "},
		{list(wordAt(0, ""), wordAt(0, "a"), wordAt(0, "")), " a "},
		{list(of(api.TkEnd+1, "a"), of(-1, "b"), of(math.MaxInt, "c"), of(math.MinInt, "d")), "a b c d"},
		{list(wordAt(0, " a "), wordAt(0, "b\n"), wordAt(0, "\xff\x00")), " a  b\n \xff\x00"},
		{list(numberAt(0, "007", 3), numberAt(0, "", 12), numberAt(0, "x", 0)), "007  x"},
	} {
		if s := Text(c.l); s != c.want {
			t.Errorf("%d: %q, not %q", i, s, c.want)
		}
	}
	many := slices.Repeat(list(wordAt(0, "ab"), endAt(2)), 100000)
	if s := Text(many); s != strings.Repeat("ab ", 99999)+"ab" {
		t.Error("many tokens", len(s))
	}
}

// P14.4: arguments stay as they are, behind the ends of lists as well.
func TestArguments(t *testing.T) {
	l := list(wordAt(1, "a"), endAt(2), numberAt(3, "4", 4), signAt(5, ";"), endAt(6), wordAt(7, "b"))
	before := slices.Clone(l)
	for n := range len(l) + 1 {
		for from := range n + 1 {
			Text(l[from:n])
		}
	}
	if !slices.Equal(l, before) {
		t.Error(l)
	}
	if s := Text(l[:3]); s != "a 4" {
		t.Error(s)
	}
}

// P14.4: a result is new memory, and what is done to it changes no later one.
func TestFresh(t *testing.T) {
	for _, s := range []string{"", "a", "a <= 12 ;", "== = <= < ( ) + - * / % , : ;"} {
		first, _, _ := Lex(s)
		kept := slices.Clone(first)
		text := Text(first)
		second, _, _ := Lex(s)
		for i := range first[:cap(first)] {
			first[:cap(first)][i] = api.Token{Kind: 77, Text: "spoilt", N: 77, Pos: 77}
		}
		if !slices.Equal(second, kept) {
			t.Error("shared", s, second)
		}
		checkTokens(t, s, kept)
		if Text(second) != text {
			t.Error("another text", s)
		}
	}
}

// Ways: the signs are in an array, and no sign stands behind one that is a beginning of it.
func TestSigns(t *testing.T) {
	if reflect.TypeOf(signs).Kind() != reflect.Array {
		t.Error("no array")
	}
	for i := 1; i < len(signs); i++ {
		if len(signs[i-1]) < len(signs[i]) {
			t.Error("a longer sign behind a shorter one", signs[i])
		}
	}
}
