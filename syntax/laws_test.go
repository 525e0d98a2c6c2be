package syntax

import (
	"math"
	"math/rand"
	"reflect"
	"slices"
	"strconv"
	"strings"
	"testing"

	"greenbelt/api"
	"greenbelt/lex"
)

// These tests look for a text that says a plan or an expression, as the chapter defines what is valid, and check the laws
// of the chapter on many of them.

// said returns tokens that say a plan, if any do.
func said(p api.Plan) []api.Token {
	var l []api.Token
	for _, d := range p.Defs {
		l = slices.Concat(l, tokensOf("define"), namesSaid(d.Name), tokensOf("="), exprSaid(d.Body), tokensOf(";"))
	}
	for _, t := range p.Tables {
		l = slices.Concat(l, tokensOf("table"), namesSaid(t.Name))
		for _, r := range t.Rows {
			l = slices.Concat(l, namesSaid(r.Name), numbersSaid(r.N))
		}
		l = slices.Concat(l, tokensOf("else"), numbersSaid(t.Else), tokensOf(";"))
	}
	for _, z := range p.Zones {
		l = append(l, tokensOf(map[bool]string{false: "zone", true: "overlay"}[z.Overlay])...)
		l = slices.Concat(l, namesSaid(z.Name), cornersSaid(z.Corners), tokensOf(";"))
	}
	for _, r := range p.Rules {
		l = slices.Concat(l, ruleSaid(r), tokensOf(";"))
	}
	for _, c := range p.Caps {
		l = slices.Concat(l, tokensOf("cap"), namesSaid(c.Name), wordSaid("homes traffic runoff", c.Load), numbersSaid(c.Limit), cornersSaid(c.Corners), tokensOf(";"))
	}
	for _, v := range p.Views {
		l = slices.Concat(l, tokensOf("view"), namesSaid(v.Name), placesSaid(v.Eye), tokensOf("least"), numbersSaid(v.Least), tokensOf(":"), placesSaid(v.Targets...), tokensOf(";"))
	}
	for i, d := range p.Sun {
		l = slices.Concat(l, tokensOf([]string{"sun", ","}[min(i, 1)]), placesSaid(d))
	}
	if len(p.Sun) > 0 {
		l = append(l, tokensOf(";")...)
	}
	if p.Hours != 0 {
		l = slices.Concat(l, tokensOf("hours"), numbersSaid(p.Hours), tokensOf(";"))
	}
	return append(l, api.Token{Kind: api.TkEnd})
}

func ruleSaid(r api.Rule) []api.Token {
	l := slices.Concat(tokensOf("rule"), namesSaid(r.Name))
	if len(r.Zones) > 0 {
		l = slices.Concat(l, tokensOf("in"), namesSaid(r.Zones...))
	}
	if len(r.Except) > 0 {
		l = slices.Concat(l, tokensOf("except"), namesSaid(r.Except...))
	}
	for i, n := range []int{r.From, r.Until, r.Grace} {
		if n != 0 {
			l = slices.Concat(l, tokensOf([]string{"from", "until", "grace"}[i]), numbersSaid(n))
		}
	}
	if r.Vary {
		l = append(l, tokensOf("vary")...)
	}
	l = append(l, tokensOf(":")...)
	const words = "home shop work park plant hall"
	switch r.Kind {
	case api.RkTest:
		return append(l, exprSaid(r.Test)...)
	case api.RkPlane:
		return slices.Concat(l, tokensOf("plane"), numbersSaid(r.Plane.Side), tokensOf("base"), numbersSaid(r.Plane.Base), tokensOf("slope"), numbersSaid(r.Plane.Num, r.Plane.Den))
	case api.RkUses:
		l = append(l, tokensOf("uses")...)
		for i, word := range strings.Fields(words) {
			if r.Uses&(1<<i) != 0 {
				l = append(l, tokensOf(word)...)
			}
		}
		return l
	case api.RkApart:
		return slices.Concat(l, tokensOf("apart"), wordSaid(words, r.Uses), wordSaid(words, r.Other), numbersSaid(r.N))
	}
	return tokensOf("?")
}

func namesSaid(names ...string) []api.Token {
	var l []api.Token
	for _, s := range names {
		l = append(l, api.Token{Kind: api.TkWord, Text: s})
	}
	return l
}

func numbersSaid(numbers ...int) []api.Token {
	var l []api.Token
	for _, n := range numbers {
		if n < 0 {
			l = append(l, tokensOf("-")...)
			n = -n
		}
		l = append(l, api.Token{Kind: api.TkNumber, Text: strconv.Itoa(n), N: n})
	}
	return l
}

func wordSaid(words string, i int) []api.Token {
	if l := strings.Fields(words); i >= 0 && i < len(l) {
		return tokensOf(l[i])
	}
	return tokensOf("?")
}

func cornersSaid(l []api.Point) []api.Token {
	var tokens []api.Token
	for _, c := range l {
		tokens = append(tokens, numbersSaid(c.X, c.Y)...)
	}
	return tokens
}

func placesSaid(l ...api.Point3) []api.Token {
	var tokens []api.Token
	for _, c := range l {
		tokens = append(tokens, numbersSaid(c.X, c.Y, c.Z)...)
	}
	return tokens
}

// signsOf has what stands before, between and behind the operands of each kind of expressions that has some.
var signsOf = map[int]string{
	api.ExAdd: "_ + _", api.ExSub: "_ - _", api.ExMul: "_ * _", api.ExDiv: "_ / _", api.ExMod: "_ % _", api.ExNeg: "- _",
	api.ExEq: "_ == _", api.ExLess: "_ < _", api.ExAtMost: "_ <= _", api.ExAnd: "_ and _", api.ExOr: "_ or _",
	api.ExNot: "not _", api.ExIf: "if _ then _ else _",
}

// exprSaid returns tokens that say an expression, with parentheses around all operands.
func exprSaid(e api.Expr) []api.Token { return exprSaidTo(e, 20) }

func exprSaidTo(e api.Expr, most int) []api.Token {
	switch e.Op {
	case api.ExNum:
		return numbersSaid(e.N)
	case api.ExName:
		return namesSaid(e.S)
	case api.ExTable:
		return append(tokensOf("table"), namesSaid(e.S, e.Key)...)
	case api.ExZone:
		return append(tokensOf("zone"), namesSaid(e.S)...)
	}
	var l []api.Token
	args := e.Args
	for _, s := range strings.Fields(signsOf[e.Op]) {
		if s != "_" {
			l = append(l, tokensOf(s)...)
			continue
		}
		if len(args) == 0 || most == 0 {
			return tokensOf("?")
		}
		l = slices.Concat(l, tokensOf("("), exprSaidTo(args[0], most-1), tokensOf(")"))
		args = args[1:]
	}
	return l
}

// canBe reports whether the numbers are some that a text can have.
func canBe(l []api.Token) bool {
	return !slices.ContainsFunc(l, func(t api.Token) bool { return t.N < 0 || t.N > 1<<40 })
}

// isPlan follows the definition of valid plans.
func isPlan(p api.Plan) bool {
	l := said(p)
	if !canBe(l) {
		return false
	}
	q, _, e := modelPlan(l)
	return e == api.OK && equal(p, q)
}

// isExpr follows the definition of valid expressions.
func isExpr(e api.Expr) bool {
	l := append(exprSaid(e), api.Token{Kind: api.TkEnd})
	return canBe(l) && firstWrong("WHOLE", l) == len(l) && height(e) <= 12 && equal(tree(l[:len(l)-1]), e)
}

// without returns tokens without those with the indices i and j, which ascend.
func without(l []api.Token, i, j int) []api.Token {
	return slices.Concat(l[:i], l[i+1:j], l[j+1:])
}

// closing returns the index of the parenthesis that closes the one with the index i.
func closing(l []api.Token, i int) int {
	deep := 0
	for j, t := range l[i:] {
		switch t.Text {
		case "(":
			deep++
		case ")":
			if deep--; deep == 0 {
				return i + j
			}
		}
	}
	return -1
}

// says reports whether tokens say an expression.
func says(l []api.Token, e api.Expr) bool {
	return firstWrong("WHOLE", append(slices.Clip(l), api.Token{Kind: api.TkEnd})) > len(l) && equal(tree(l), e)
}

// bare returns tokens that say an expression without all parentheses that it can do without.
func bare(e api.Expr) []api.Token {
	l := exprSaid(e)
	for i := 0; i < len(l); i++ {
		if l[i].Text != "(" {
			continue
		}
		if less := without(l, i, closing(l, i)); says(less, e) {
			l = less
			i--
		}
	}
	return l
}

// canonical returns the canonical text of a valid plan.
func canonical(p api.Plan) string {
	var l []api.Token
	whole := said(p)
	for n := behind(whole, ";"); n > 0; n = behind(whole, ";") {
		d := whole[:n]
		whole = whole[n:]
		switch {
		case d[0].Text == "define":
			d = slices.Concat(d[:3], bare(tree(d[3:n-1])), d[n-1:])
		case d[0].Text == "rule" && !slices.Contains([]string{"plane", "uses", "apart"}, d[behind(d, ":")].Text):
			c := behind(d, ":")
			d = slices.Concat(d[:c], bare(tree(d[c:n-1])), d[n-1:])
		}
		l = append(l, d...)
	}
	return strings.ReplaceAll(strings.ReplaceAll(lex.Text(l)+" ", "; ", ";\n"), " \n", "\n")
}

// checkPlan compares what the package says of a plan with the definitions.
func checkPlan(t *testing.T, p api.Plan) {
	t.Helper()
	is := isPlan(p)
	s, e := Print(p)
	if Right(p) != is || is != (e != api.ErrArg) || e != api.OK && s != "" {
		t.Fatalf("%+v: %v, %q, %d", p, is, s, e)
	}
	if !is {
		return
	}
	want := strings.TrimSuffix(canonical(p), " ")
	if len(p.Defs)+len(p.Tables)+len(p.Zones)+len(p.Rules)+len(p.Caps)+len(p.Views)+len(p.Sun)+p.Hours == 0 {
		want = ""
	}
	if len(want) > 8000 {
		if e != api.ErrFull {
			t.Fatalf("%d bytes: %d", len(want), e)
		}
		return
	}
	q, at, err := Parse(s)
	if s != want || e != api.OK || !equal(p, q) || !Same(p, q) || at != 0 || err != api.OK {
		t.Fatalf("%+v: %q, %d, not %q, and parsed %+v, %d, %d", p, s, e, want, q, at, err)
	}
}

// checkExpr compares what the package says of an expression with the definitions.
func checkExpr(t *testing.T, e api.Expr) {
	t.Helper()
	is := isExpr(e)
	s, err := PrintExpr(e)
	if RightExpr(e) != is || is != (err != api.ErrArg) || err != api.OK && s != "" {
		t.Fatalf("%+v: %v, %q, %d", e, is, s, err)
	}
	if !is || err == api.ErrFull {
		return
	}
	back, _, error := ParseExpr(s)
	if want := lex.Text(bare(e)); s != want || !equal(back, e) || error != api.OK {
		t.Fatalf("%+v: %q, not %q, and parsed %+v, %d", e, s, want, back, error)
	}
}

// simple has an expression of each kind, with names and numbers as operands.
func simple() []api.Expr {
	var l []api.Expr
	for op := range api.ExOps {
		switch op {
		case api.ExNum:
			l = append(l, api.Expr{Op: op, N: 1})
		case api.ExName, api.ExZone:
			l = append(l, api.Expr{Op: op, S: "a"})
		case api.ExTable:
			l = append(l, api.Expr{Op: op, S: "t", Key: "k"})
		default:
			e := api.Expr{Op: op}
			for i := range strings.Count(signsOf[op], "_") {
				e.Args = append(e.Args, api.Expr{Op: api.ExName, S: string(rune('b' + i))})
			}
			l = append(l, e)
		}
	}
	return l
}

// inside returns the expressions in which another one is an operand of each kind of expressions, at each place.
func inside(inner api.Expr) []api.Expr {
	var l []api.Expr
	for _, outer := range simple() {
		for i := range outer.Args {
			e := outer
			e.Args = slices.Clone(outer.Args)
			e.Args[i] = inner
			l = append(l, e)
		}
	}
	return l
}

// P15.2, P15.5, P15.6: each kind of expressions inside each other one, at each place, up to four levels.
func TestNested(t *testing.T) {
	n := 0
	for _, a := range simple() {
		checkExpr(t, a)
		for _, b := range inside(a) {
			checkExpr(t, b)
			// Of the expressions without operands, one stands for all of them below another one.
			for _, c := range inside(b) {
				if a.Args != nil || a.Op == api.ExName {
					checkExpr(t, c)
					n++
				}
			}
		}
	}
	if n != 14*25*25 {
		t.Error(n)
	}
	for _, a := range simple()[4:] {
		for _, b := range simple()[4:] {
			for _, c := range simple()[4:] {
				if len(c.Args) == 2 {
					c.Args = []api.Expr{a, b}
					checkExpr(t, c)
				}
			}
		}
	}
}

// P15.6: no pair of parentheses can be left out of a canonical text.
func TestNoParenthesesTooMany(t *testing.T) {
	r := rand.New(rand.NewSource(1))
	pairs := 0
	for range 3000 {
		e := someExpr(r, 5)
		s, err := PrintExpr(e)
		l, _, _ := lex.Lex(s)
		if err != api.OK {
			t.Fatal(err)
		}
		l = l[:len(l)-1]
		for i, token := range l {
			if token.Text != "(" {
				continue
			}
			pairs++
			less := lex.Text(without(l, i, closing(l, i)))
			if back, _, err := ParseExpr(less); err == api.OK && equal(back, e) {
				t.Fatalf("%q says the same as %q", less, s)
			}
		}
	}
	if pairs < 3000 {
		t.Error(pairs)
	}
}

// P15.5: Parse of Print is the plan, and so is Parse of the text with other blanks.
func TestRoundTrip(t *testing.T) {
	r := rand.New(rand.NewSource(2))
	for range 1500 {
		p := somePlan(r)
		checkPlan(t, p)
		s, _ := Print(p)
		if q, at, e := Parse(spaced(r, s)); at != 0 || e != api.OK || !equal(p, q) {
			t.Fatalf("%q: %d, %d", s, at, e)
		}
	}
	for range 2000 {
		checkExpr(t, someExpr(r, 1+r.Intn(5)))
	}
}

// spaced returns a text with other blanks between its tokens, and around them.
func spaced(r *rand.Rand, s string) string {
	l, _, _ := lex.Lex(s)
	blanks := []string{" ", "\t", "\n", "  ", " \n\t"}
	out := blanks[r.Intn(5)]
	for i, t := range l {
		out += t.Text
		near := t.Kind == api.TkSign && t.Text != "=" && t.Text != "<" || i+1 < len(l) && l[i+1].Kind == api.TkSign && t.Kind != api.TkSign
		if !near || r.Intn(2) == 0 {
			out += blanks[r.Intn(5)]
		}
	}
	return out
}

// P15.5: the order of declarations of different kinds does not matter, that of one kind is the order of the list.
func TestOrderOfKinds(t *testing.T) {
	r := rand.New(rand.NewSource(3))
	for range 1000 {
		p := somePlan(r)
		s, _ := Print(p)
		lines := strings.SplitAfter(s, "\n")
		byKind := map[string][]string{}
		for _, line := range lines {
			word, _, _ := strings.Cut(line, " ")
			byKind[kindOf(word)] = append(byKind[kindOf(word)], line)
		}
		mixed := ""
		r.Shuffle(len(lines), func(i, j int) { lines[i], lines[j] = lines[j], lines[i] })
		for _, line := range lines {
			word, _, _ := strings.Cut(line, " ")
			l := byKind[kindOf(word)]
			mixed += l[0]
			byKind[kindOf(word)] = l[1:]
		}
		if q, at, e := Parse(mixed); at != 0 || e != api.OK || !equal(p, q) {
			t.Fatalf("%q: %d, %d, %+v", mixed, at, e, q)
		}
	}
}

// P15.1: texts with faults: the first token with an error, and the first error of the list, decide.
func TestFaults(t *testing.T) {
	r := rand.New(rand.NewSource(4))
	words := strings.Fields(reservedWords + " a b core home homes shop 0 1 3 4 5 24 25 4096 4097 1048576 1048577 1073741824 1073741825 1099511627776 ; ; ; , : = == < <= + - - * / % ( ( ) )")
	found := map[api.Errno]int{}
	for range 8000 {
		s, _ := Print(somePlan(r))
		l := strings.Fields(s)
		for range 1 + r.Intn(2) {
			if len(l) == 0 {
				break
			}
			i, word := r.Intn(len(l)), words[r.Intn(len(words))]
			switch r.Intn(6) {
			case 0:
				l = slices.Delete(l, i, i+1)
			case 1:
				l = slices.Insert(l, i, word)
			case 2:
				l[i] = word
			case 3:
				j := r.Intn(len(l))
				l[i], l[j] = l[j], l[i]
			case 4:
				// What stands twice often has the same name.
				j := min(len(l), i+1+r.Intn(12))
				l = slices.Concat(l[:j], l[i:j], l[j:])
			case 5:
				l = l[:i]
			}
		}
		text := strings.Join(l, " ")
		checkText(t, text)
		_, _, e := Parse(text)
		found[e]++
	}
	for _, e := range []api.Errno{api.OK, api.ErrSyntax, api.ErrTwice, api.ErrRange, api.ErrShape} {
		if found[e] < 50 {
			t.Error(e, found[e])
		}
	}
}

// P15.1: the same for expressions.
func TestExprFaults(t *testing.T) {
	r := rand.New(rand.NewSource(5))
	words := strings.Fields("a 0 if then else or and not == < <= + - * / % ( ) table zone rule ; 1099511627776")
	for range 10000 {
		s, _ := PrintExpr(someExpr(r, 1+r.Intn(5)))
		l := strings.Fields(s)
		for range r.Intn(3) {
			i, word := r.Intn(len(l)), words[r.Intn(len(words))]
			switch r.Intn(3) {
			case 0:
				l[i] = word
			case 1:
				l = slices.Insert(l, i, word)
			default:
				l = append(slices.Delete(l, i, i+1), "a")
			}
		}
		checkExprTokens(t, strings.Join(l, " "))
	}
}

// fields returns all fields, elements and lists of a value that can be set.
func fields(v reflect.Value) []reflect.Value {
	var l []reflect.Value
	switch v.Kind() {
	case reflect.Struct:
		for i := range v.NumField() {
			l = append(l, fields(v.Field(i))...)
		}
	case reflect.Slice:
		l = append(l, v)
		for i := range v.Len() {
			l = append(l, fields(v.Index(i))...)
		}
	default:
		l = append(l, v)
	}
	return l
}

var oddNumbers = []int{
	math.MinInt, math.MinInt + 1, -1<<40 - 1, -1 << 40, -1<<12 - 1, -1 << 12, -1, 0, 1, 2, 3, 4, 5, 6, 12, 13, 16, 17, 19, 20, 21, 24, 25, 31, 32,
	62, 63, 64, 1 << 12, 1<<12 + 1, 1 << 20, 1<<20 + 1, 1 << 30, 1<<30 + 1, 1 << 40, 1<<40 + 1, math.MaxInt,
}

var oddNames = []string{"", "a", "b", "home", "if", "rule", "table", "zone", "or", "else", "vary", "A", "a b", "a;", "1", "1a", "abcdefghijklmnopqrst", "abcdefghijklmnopqrstu", "ä", ";", "=", "("}

// disturb changes a field, an element or a list.
func disturb(r *rand.Rand, v reflect.Value) {
	switch v.Kind() {
	case reflect.Int:
		v.SetInt(int64(oddNumbers[r.Intn(len(oddNumbers))]))
	case reflect.String:
		v.SetString(oddNames[r.Intn(len(oddNames))])
	case reflect.Bool:
		v.SetBool(!v.Bool())
	case reflect.Slice:
		n := v.Len()
		switch r.Intn(4) {
		case 0:
			v.SetLen(r.Intn(n + 1))
		case 1:
			v.Set(reflect.Append(v, reflect.Zero(v.Type().Elem())))
		case 2:
			if n > 0 {
				v.Set(reflect.Append(v, v.Index(r.Intn(n))))
			}
		case 3:
			v.Set(reflect.MakeSlice(v.Type(), 0, 1))
		}
	}
}

// P15.2: Right and Print agree with the definition of valid plans, also for plans that no text says.
func TestDisturbedPlans(t *testing.T) {
	r := rand.New(rand.NewSource(6))
	counts := map[bool]int{}
	for range 6000 {
		p := flat(somePlan(r))
		l := fields(reflect.ValueOf(&p).Elem())
		disturb(r, l[r.Intn(len(l))])
		checkPlan(t, p)
		counts[Right(p)]++
	}
	if counts[true] < 500 || counts[false] < 500 {
		t.Error(counts)
	}
}

// single returns plans that have one declaration of a plan each.
func single(p api.Plan) []api.Plan {
	l := []api.Plan{{Sun: p.Sun}, {Hours: p.Hours}}
	for i := range p.Defs {
		l = append(l, api.Plan{Defs: p.Defs[i : i+1]})
	}
	for i := range p.Tables {
		l = append(l, api.Plan{Tables: p.Tables[i : i+1]})
	}
	for i := range p.Zones {
		l = append(l, api.Plan{Zones: p.Zones[i : i+1]})
	}
	for i := range p.Rules {
		l = append(l, api.Plan{Rules: p.Rules[i : i+1]})
	}
	for i := range p.Caps {
		l = append(l, api.Plan{Caps: p.Caps[i : i+1]})
	}
	for i := range p.Views {
		l = append(l, api.Plan{Views: p.Views[i : i+1]})
	}
	return l
}

// P15.2: each field of each declaration with each number, each name, and lists of each length up to one more.
func TestEachField(t *testing.T) {
	for _, p := range single(wholePlan()) {
		for i := range fields(reflect.ValueOf(&p).Elem()) {
			eachValue(t, p, i)
		}
	}
}

// eachValue gives values to the field with an index.
func eachValue(t *testing.T, p api.Plan, i int) {
	q := flat(p)
	switch v := fields(reflect.ValueOf(&q).Elem())[i]; v.Kind() {
	case reflect.Int:
		for _, n := range oddNumbers {
			v.SetInt(int64(n))
			checkPlan(t, q)
		}
	case reflect.String:
		for _, s := range oddNames {
			v.SetString(s)
			checkPlan(t, q)
		}
	case reflect.Bool:
		v.SetBool(!v.Bool())
		checkPlan(t, q)
	case reflect.Slice:
		all := reflect.AppendSlice(reflect.Zero(v.Type()), v)
		all = reflect.Append(all, reflect.Zero(v.Type().Elem()))
		for k := range all.Len() + 1 {
			v.Set(all.Slice3(0, k, k))
			checkPlan(t, q)
		}
	}
}

// P15.2: the same for expressions.
func TestDisturbedExprs(t *testing.T) {
	r := rand.New(rand.NewSource(7))
	counts := map[bool]int{}
	for range 20000 {
		e := flat(someExpr(r, 1+r.Intn(4)))
		l := fields(reflect.ValueOf(&e).Elem())
		disturb(r, l[r.Intn(len(l))])
		checkExpr(t, e)
		counts[RightExpr(e)]++
	}
	if counts[true] < 1000 || counts[false] < 1000 {
		t.Error(counts)
	}
}
