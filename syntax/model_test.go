package syntax

import (
	"math/rand"
	"reflect"
	"regexp"
	"slices"
	"strconv"
	"strings"
	"testing"

	"greenbelt/api"
	"greenbelt/lex"
	"greenbelt/polygon"
)

// These tests compare the package with the grammar of the chapter, which is followed token by token in all ways at once,
// and with the limits, which are looked up by the places of the tokens.

// grammar has a part of a plan in each line: [ ] may be left out, { } is there any number of times, and | divides choices.
const grammar = `
PLAN -> { DECLARATION } END
WHOLE -> E0 END
DECLARATION -> define NAME = E0 ; | table NAME { NAME SNUM } else SNUM ; | zone NAME POINTS ; | overlay NAME POINTS ; | RULE | cap NAME LOAD NUM POINTS ; | view NAME PLACE least NUM : PLACE { PLACE } ; | sun DIRECTION { , DIRECTION } ; | hours NUM ;
RULE -> rule NAME [ in NAME { NAME } ] [ except NAME { NAME } ] [ from NUM ] [ until NUM ] [ grace NUM ] [ vary ] : BODY ;
SNUM -> NUM | - NUM
POINTS -> NUM NUM { NUM NUM }
PLACE -> NUM NUM NUM
DIRECTION -> SNUM SNUM NUM
BODY -> E0 | plane NUM base NUM slope NUM NUM | uses USE { USE } | apart USE USE NUM
USE -> home | shop | work | park | plant | hall
LOAD -> homes | traffic | runoff
E0 -> if E0 then E0 else E0 | E1
E1 -> E2 { or E2 }
E2 -> E3 { and E3 }
E3 -> not E3 | E4
E4 -> E5 [ == E5 | < E5 | <= E5 ]
E5 -> E6 { + E6 | - E6 }
E6 -> E7 { * E7 | / E7 | % E7 }
E7 -> - E7 | E8
E8 -> NUM | NAME | table NAME NAME | zone NAME | ( E0 )`

const reservedWords = "and apart base cap define else except from grace hours if in least not or overlay plane rule slope sun table then until uses vary view zone"

var (
	wordPattern     = regexp.MustCompile(`^[a-z][a-z0-9]{0,19}$`)
	reservedPattern = regexp.MustCompile("^(" + strings.ReplaceAll(reservedWords, " ", "|") + ")$")
	isNameBefore    = map[string]bool{}
)

// isName follows the definition of names. It remembers what it has said.
func isName(s string) bool {
	is, known := isNameBefore[s]
	if !known {
		is = wordPattern.MatchString(s) && !reservedPattern.MatchString(s)
		isNameBefore[s] = is
	}
	return is
}

// node is a part of the grammar: its sign is [ or {, | for a choice, a blank for a sequence, and empty for a token or a part with this text.
type node struct {
	sign string
	text string
	kids []*node
}

// parts has the parts of the grammar by name.
var parts = readGrammar()

func readGrammar() map[string]*node {
	g := map[string]*node{}
	for _, line := range strings.Split(strings.TrimSpace(grammar), "\n") {
		name, text, _ := strings.Cut(line, " -> ")
		l := strings.Fields(text)
		g[name] = readChoice(&l)
	}
	return g
}

// readChoice reads choices up to a closing bracket, or the end.
func readChoice(l *[]string) *node {
	choice, row := &node{sign: "|"}, &node{sign: " "}
	for len(*l) > 0 {
		t := (*l)[0]
		*l = (*l)[1:]
		switch t {
		case "]", "}":
			choice.kids = append(choice.kids, row)
			return choice
		case "|":
			choice.kids = append(choice.kids, row)
			row = &node{sign: " "}
		case "[", "{":
			row.kids = append(row.kids, &node{sign: t, kids: []*node{readChoice(l)}})
		default:
			row.kids = append(row.kids, &node{text: t})
		}
	}
	choice.kids = append(choice.kids, row)
	return choice
}

// ahead is what must follow: a part of the grammar, and then what is below it.
type ahead struct {
	top   *node
	below *ahead
}

// nexts adds the ways in which a token may come next.
func nexts(l []*ahead, top *node, below *ahead) []*ahead {
	switch top.sign {
	case "|":
		for _, kid := range top.kids {
			l = nexts(l, kid, below)
		}
		return l
	case " ":
		for _, kid := range slices.Backward(top.kids[1:]) {
			below = &ahead{kid, below}
		}
		return nexts(l, top.kids[0], below)
	case "[":
		return nexts(goOn(l, below), top.kids[0], below)
	case "{":
		return nexts(goOn(l, below), top.kids[0], &ahead{top, below})
	}
	if part := parts[top.text]; part != nil {
		return nexts(l, part, below)
	}
	return append(l, &ahead{top, below})
}

// goOn adds the ways in which a token may come next, if nothing more comes before what is ahead.
func goOn(l []*ahead, below *ahead) []*ahead {
	if below == nil {
		return l
	}
	return nexts(l, below.top, below.below)
}

// step returns the ways that are left after a token, and whether it is permitted.
func step(l []*ahead, t api.Token) ([]*ahead, bool) {
	var after []*ahead
	is := false
	for _, a := range l {
		if matches(a.top.text, t) {
			is = true
			after = goOn(after, a.below)
		}
	}
	return after, is
}

func matches(text string, t api.Token) bool {
	switch text {
	case "NAME":
		return isName(t.Text)
	case "NUM":
		return t.Kind == api.TkNumber
	case "END":
		return t.Kind == api.TkEnd
	}
	return t.Kind != api.TkEnd && t.Kind != api.TkNumber && t.Text == text
}

// firstWrong returns the index of the first token that a part of the grammar does not permit, or their number.
func firstWrong(part string, l []api.Token) int {
	ways := nexts(nil, parts[part], nil)
	for i, t := range l {
		var is bool
		if ways, is = step(ways, t); !is {
			return i
		}
	}
	return len(l)
}

// finding is an error at the token with the index at; of several ones there, the one with the least rank is reported.
type finding struct {
	at, rank int
	e        api.Errno
}

func (f finding) before(g finding) bool {
	return f.at < g.at || f.at == g.at && f.rank < g.rank
}

func syntaxAt(i int) finding { return finding{i, 1, api.ErrSyntax} }
func fullAt(i int) finding   { return finding{i, 2, api.ErrFull} }
func twiceAt(i int) finding  { return finding{i, 3, api.ErrTwice} }
func rangeAt(i int) finding  { return finding{i, 4, api.ErrRange} }
func shapeAt(i int) finding  { return finding{i, 5, api.ErrShape} }

// modelPlan returns what Parse has to return for tokens, but with the index of a token in the place of an offset.
func modelPlan(l []api.Token) (api.Plan, int, api.Errno) {
	wrong := firstWrong("PLAN", l)
	all := []finding{syntaxAt(wrong)}
	counts, used := map[string]int{}, map[[2]string]bool{}
	for from := 0; from < wrong && l[from].Kind != api.TkEnd; {
		to := from
		for to < wrong && l[to].Text != ";" {
			to++
		}
		if to < wrong {
			to++
		}
		for _, f := range limits(l[from:to], counts, used) {
			f.at += from
			all = append(all, f)
		}
		from = to
	}
	first := slices.MinFunc(all, func(f, g finding) int {
		if f.before(g) {
			return -1
		}
		return 1
	})
	if first.at < len(l) {
		return api.Plan{}, first.at, first.e
	}
	return meaning(l), 0, api.OK
}

// kindOf says in which list a declaration goes.
func kindOf(word string) string {
	if word == "overlay" {
		return "zone"
	}
	return word
}

// limits returns the limits that the beginning of a declaration, which follows the grammar, does not keep.
func limits(d []api.Token, counts map[string]int, used map[[2]string]bool) []finding {
	kind := kindOf(d[0].Text)
	counts[kind]++
	most := map[string]int{"define": 60, "table": 60, "zone": 60, "rule": 200, "cap": 30, "view": 60, "sun": 1, "hours": 1}[kind]
	var l []finding
	if counts[kind] > most && most == 1 {
		l = append(l, twiceAt(0))
	} else if counts[kind] > most {
		l = append(l, fullAt(0))
	}
	if most > 1 && len(d) > 1 {
		if used[[2]string{kind, d[1].Text}] {
			l = append(l, twiceAt(1))
		}
		used[[2]string{kind, d[1].Text}] = true
	}
	switch kind {
	case "define":
		return append(l, tooDeep(d, 3)...)
	case "table":
		return append(l, rowLimits(d)...)
	case "rule":
		return append(l, ruleLimits(d)...)
	case "view":
		return append(l, viewLimits(d)...)
	case "sun":
		return append(l, sunLimits(d)...)
	case "zone":
		return append(l, zoneLimits(d, 0)...)
	case "cap":
		return append(l, zoneLimits(d, 1)...)
	default:
		return append(l, beyond(d, 0, 0, 24)...)
	}
}

// numbersOf returns the indices of the numbers.
func numbersOf(d []api.Token) []int {
	var l []int
	for i, t := range d {
		if t.Kind == api.TkNumber {
			l = append(l, i)
		}
	}
	return l
}

// beyond returns an error, if the number with an index among the numbers is there and is not from a to b.
func beyond(d []api.Token, index, a, b int) []finding {
	if l := numbersOf(d); index < len(l) && (d[l[index]].N < a || d[l[index]].N > b) {
		return []finding{rangeAt(l[index])}
	}
	return nil
}

// complete reports whether a declaration has its semicolon.
func complete(d []api.Token) bool { return d[len(d)-1].Text == ";" }

// tooDeep looks at the expression that begins at an index, if it is complete.
func tooDeep(d []api.Token, from int) []finding {
	if complete(d) && height(tree(d[from:len(d)-1])) > 12 {
		return []finding{fullAt(len(d) - 1)}
	}
	return nil
}

func height(e api.Expr) int {
	h := 0
	for _, a := range e.Args {
		h = max(h, height(a))
	}
	return h + 1
}

func rowLimits(d []api.Token) []finding {
	var l []finding
	var names []string
	for i, t := range d {
		if i < 2 || t.Kind != api.TkWord || t.Text == "else" {
			continue
		}
		if len(names) >= 60 {
			l = append(l, fullAt(i))
		}
		if slices.Contains(names, t.Text) {
			l = append(l, twiceAt(i))
		}
		names = append(names, t.Text)
	}
	return l
}

// cornersOf returns the points of all numbers from an index among them on.
func cornersOf(d []api.Token, from int) []api.Point {
	var l []api.Point
	n := numbersOf(d)
	for i := from; i+1 < len(n); i += 2 {
		l = append(l, api.Point{X: d[n[i]].N, Y: d[n[i+1]].N})
	}
	return l
}

// placesOf returns the points in space of all numbers from an index among them on.
func placesOf(d []api.Token, from int) []api.Point3 {
	var l []api.Point3
	n := numbersOf(d)
	for i := from; i+2 < len(n); i += 3 {
		l = append(l, api.Point3{X: signedAt(d, n[i]), Y: signedAt(d, n[i+1]), Z: signedAt(d, n[i+2])})
	}
	return l
}

// signedAt returns the number at an index with its sign.
func signedAt(d []api.Token, i int) int {
	if d[i-1].Text == "-" {
		return -d[i].N
	}
	return d[i].N
}

// zoneLimits looks at points behind some numbers.
func zoneLimits(d []api.Token, before int) []finding {
	var l []finding
	for i := before; i < len(numbersOf(d)); i++ {
		l = append(l, beyond(d, i, 0, 1<<20)...)
	}
	if complete(d) && !polygon.Right(cornersOf(d, before)) {
		l = append(l, shapeAt(len(d)-1))
	}
	return l
}

func viewLimits(d []api.Token) []finding {
	l := beyond(d, 3, 0, 20)
	for i, at := range numbersOf(d) {
		switch {
		case i == 3:
		case i < 3:
			l = append(l, beyond(d, i, 0, []int{1 << 20, 1 << 20, 1 << 12}[i])...)
		default:
			l = append(l, beyond(d, i, 0, []int{1 << 20, 1 << 20, 1 << 12}[(i-4)%3])...)
			if i >= 4+3*20 && (i-4)%3 == 0 {
				l = append(l, fullAt(at))
			}
		}
	}
	return l
}

func sunLimits(d []api.Token) []finding {
	var l []finding
	for i := range numbersOf(d) {
		l = append(l, beyond(d, i, []int{0, 0, 1}[i%3], 1<<12)...)
	}
	commas := 0
	for i, t := range d {
		if i > 0 && d[i-1].Text == "," {
			commas++
			if commas >= 24 && t.Text != ";" {
				l = append(l, fullAt(i))
			}
		}
	}
	return l
}

// behind returns the index after the first token with a text, or 0.
func behind(d []api.Token, text string) int {
	return slices.IndexFunc(d, func(t api.Token) bool { return t.Text == text }) + 1
}

func ruleLimits(d []api.Token) []finding {
	colon := behind(d, ":")
	head, body := d, d[len(d):]
	if colon > 0 {
		head, body = d[:colon], d[colon:]
	}
	var l []finding
	from := 0
	if i := behind(head, "from"); i > 0 && i < len(head) {
		from = head[i].N
	}
	for word, least := range map[string]int{"from": 0, "until": from + 1, "grace": 0} {
		if i := behind(head, word); i > 0 && i < len(head) && (head[i].N < least || head[i].N > 1<<30) {
			l = append(l, rangeAt(i))
		}
	}
	if len(body) == 0 {
		return l
	}
	switch body[0].Text {
	case "plane":
		for i, ends := range [][2]int{{0, 3}, {0, 1 << 12}, {0, 1 << 12}, {1, 1 << 12}} {
			for _, f := range beyond(body, i, ends[0], ends[1]) {
				l = append(l, rangeAt(colon+f.at))
			}
		}
	case "apart":
		for _, f := range beyond(body, 0, 0, 1<<20) {
			l = append(l, rangeAt(colon+f.at))
		}
	case "uses":
		for i := range body {
			if slices.ContainsFunc(body[:i], func(t api.Token) bool { return t.Text == body[i].Text }) {
				l = append(l, twiceAt(colon+i))
			}
		}
	default:
		l = append(l, tooDeep(d, colon)...)
	}
	return l
}

// tree returns the expression of tokens that follow the grammar: it is divided at the operator that is applied last.
func tree(l []api.Token) api.Expr {
	if l[0].Text == "if" {
		then, other := branches(l)
		return apply(api.ExIf, l[1:then], l[then+1:other], l[other+1:])
	}
	for _, ops := range []map[string]int{
		{"or": api.ExOr}, {"and": api.ExAnd}, {"not": api.ExNot}, {"==": api.ExEq, "<": api.ExLess, "<=": api.ExAtMost},
		{"+": api.ExAdd, "-": api.ExSub}, {"*": api.ExMul, "/": api.ExDiv, "%": api.ExMod},
	} {
		if at := lastOf(l, ops); at > 0 {
			return apply(ops[l[at].Text], l[:at], l[at+1:])
		}
		if ops["not"] != 0 && l[0].Text == "not" {
			return apply(api.ExNot, l[1:])
		}
	}
	switch {
	case l[0].Text == "-":
		return apply(api.ExNeg, l[1:])
	case l[0].Text == "(":
		return tree(l[1 : len(l)-1])
	case l[0].Text == "table":
		return api.Expr{Op: api.ExTable, S: l[1].Text, Key: l[2].Text}
	case l[0].Text == "zone":
		return api.Expr{Op: api.ExZone, S: l[1].Text}
	case l[0].Kind == api.TkNumber:
		return api.Expr{Op: api.ExNum, N: l[0].N}
	}
	return api.Expr{Op: api.ExName, S: l[0].Text}
}

func apply(op int, operands ...[]api.Token) api.Expr {
	e := api.Expr{Op: op}
	for _, l := range operands {
		e.Args = append(e.Args, tree(l))
	}
	return e
}

// branches returns where the then and the else of the first if stand.
func branches(l []api.Token) (then, other int) {
	deep, ifs := 0, 0
	for i, t := range l[1:] {
		switch {
		case t.Text == "(":
			deep++
		case t.Text == ")":
			deep--
		case deep > 0:
		case t.Text == "if":
			ifs++
		case t.Text == "else" && ifs > 0:
			ifs--
		case t.Text == "else":
			return then, i + 1
		case t.Text == "then" && ifs == 0:
			then = i + 1
		}
	}
	panic("no else")
}

// lastOf returns the index of the last one of some operators that is in no parentheses and has an operand before it, or 0.
func lastOf(l []api.Token, ops map[string]int) int {
	deep, last := 0, 0
	for i, t := range l {
		switch {
		case t.Text == "(":
			deep++
		case t.Text == ")":
			deep--
		case deep == 0 && i > 0 && ops[t.Text] != 0 && t.Text != "not":
			if b := l[i-1]; b.Kind == api.TkNumber || b.Text == ")" || isName(b.Text) {
				last = i
			}
		}
	}
	return last
}

// meaning returns the plan of tokens that follow the grammar and the limits.
func meaning(l []api.Token) api.Plan {
	var p api.Plan
	for len(l) > 1 {
		n := behind(l, ";")
		d := l[:n]
		l = l[n:]
		numbers := numbersOf(d)
		switch d[0].Text {
		case "define":
			p.Defs = append(p.Defs, api.Def{Name: d[1].Text, Body: tree(d[3 : n-1])})
		case "table":
			t := api.Table{Name: d[1].Text, Else: signedAt(d, n-2)}
			for i := 2; d[i].Text != "else"; i++ {
				if d[i].Kind == api.TkNumber {
					t.Rows[len(t.Rows)-1].N = signedAt(d, i)
				} else if d[i].Kind == api.TkWord {
					t.Rows = append(t.Rows, api.Entry{Name: d[i].Text})
				}
			}
			p.Tables = append(p.Tables, t)
		case "zone", "overlay":
			p.Zones = append(p.Zones, api.Zone{Name: d[1].Text, Overlay: d[0].Text == "overlay", Corners: cornersOf(d, 0)})
		case "rule":
			p.Rules = append(p.Rules, ruleMeaning(d))
		case "cap":
			load := slices.Index([]string{"homes", "traffic", "runoff"}, d[2].Text)
			p.Caps = append(p.Caps, api.Cap{Name: d[1].Text, Load: load, Limit: d[3].N, Corners: cornersOf(d, 1)})
		case "view":
			p.Views = append(p.Views, api.View{Name: d[1].Text, Eye: placesOf(d[:5], 0)[0], Least: d[numbers[3]].N, Targets: placesOf(d, 4)})
		case "sun":
			p.Sun = placesOf(d, 0)
		case "hours":
			p.Hours = d[1].N
		}
	}
	return p
}

func ruleMeaning(d []api.Token) api.Rule {
	colon := behind(d, ":")
	head, body := d[:colon], d[colon:]
	r := api.Rule{Name: d[1].Text, Vary: behind(head, "vary") > 0}
	for i := behind(head, "in"); i > 0 && isName(head[i].Text); i++ {
		r.Zones = append(r.Zones, head[i].Text)
	}
	for i := behind(head, "except"); i > 0 && isName(head[i].Text); i++ {
		r.Except = append(r.Except, head[i].Text)
	}
	for word, field := range map[string]*int{"from": &r.From, "until": &r.Until, "grace": &r.Grace} {
		if i := behind(head, word); i > 0 {
			*field = head[i].N
		}
	}
	words := []string{"home", "shop", "work", "park", "plant", "hall"}
	n := numbersOf(body)
	switch body[0].Text {
	case "plane":
		r.Kind, r.Plane = api.RkPlane, api.Plane{Side: body[n[0]].N, Base: body[n[1]].N, Num: body[n[2]].N, Den: body[n[3]].N}
	case "apart":
		r.Kind, r.Uses, r.Other, r.N = api.RkApart, slices.Index(words, body[1].Text), slices.Index(words, body[2].Text), body[3].N
	case "uses":
		r.Kind = api.RkUses
		for _, t := range body[1 : len(body)-1] {
			r.Uses += 1 << slices.Index(words, t.Text)
		}
	default:
		r.Kind, r.Test = api.RkTest, tree(body[:len(body)-1])
	}
	return r
}

// flat makes every empty list nil, so that plans can be compared deeply.
func flat[T any](x T) T {
	v := reflect.ValueOf(&x).Elem()
	flatten(v)
	return x
}

func flatten(v reflect.Value) {
	switch v.Kind() {
	case reflect.Struct:
		for i := range v.NumField() {
			flatten(v.Field(i))
		}
	case reflect.Slice:
		if v.Len() == 0 {
			v.SetZero()
			return
		}
		c := reflect.MakeSlice(v.Type(), v.Len(), v.Len())
		reflect.Copy(c, v)
		v.Set(c)
		for i := range v.Len() {
			flatten(v.Index(i))
		}
	}
}

// equal compares all fields; lists that are nil and empty ones count as equal.
func equal[T any](a, b T) bool { return reflect.DeepEqual(flat(a), flat(b)) }

// checkText compares Parse with the model.
func checkText(t *testing.T, s string) {
	t.Helper()
	l, wantAt, wantE := lex.Lex(s)
	var want api.Plan
	if wantE == api.OK {
		var at int
		if want, at, wantE = modelPlan(l); wantE != api.OK {
			wantAt = l[at].Pos
		}
	}
	p, at, e := Parse(s)
	if at != wantAt || e != wantE || !equal(p, want) {
		t.Fatalf("Parse(%q): %+v, %d, %d, not %+v, %d, %d", s, p, at, e, want, wantAt, wantE)
	}
}

// checkExprTokens compares ParseExpr with the model.
func checkExprTokens(t *testing.T, s string) {
	t.Helper()
	l, _, e := lex.Lex(s)
	if e != api.OK {
		t.Fatal(s)
	}
	var want api.Expr
	wantAt, wantE := 0, api.OK
	if wrong := firstWrong("WHOLE", l); wrong < len(l) {
		wantAt, wantE = l[wrong].Pos, api.ErrSyntax
	} else if want = tree(l[:len(l)-1]); height(want) > 12 {
		want, wantAt, wantE = api.Expr{}, len(s), api.ErrFull
	}
	got, at, e := ParseExpr(s)
	if at != wantAt || e != wantE || !equal(got, want) {
		t.Fatalf("ParseExpr(%q): %+v, %d, %d, not %+v, %d, %d", s, got, at, e, want, wantAt, wantE)
	}
}

// tokensOf returns words, numbers and signs as tokens.
func tokensOf(texts ...string) []api.Token {
	var l []api.Token
	for _, s := range texts {
		n, e := strconv.Atoi(s)
		switch {
		case e == nil:
			l = append(l, api.Token{Kind: api.TkNumber, Text: s, N: n})
		case s != "" && s[0] >= 'a' && s[0] <= 'z':
			l = append(l, api.Token{Kind: api.TkWord, Text: s})
		default:
			l = append(l, api.Token{Kind: api.TkSign, Text: s})
		}
	}
	return l
}

// walk goes through all beginnings of texts with at most some of the words that a part of the grammar permits.
func walk(ways []*ahead, before []string, most int, words []string, visit func(l []string, permitted bool)) {
	for _, t := range tokensOf(words...) {
		after, is := step(ways, t)
		l := append(slices.Clip(before), t.Text)
		visit(l, is)
		if is && len(l) < most {
			walk(after, l, most, words, visit)
		}
	}
}

// P15.1: an expression ends at the first token that no expression can have there.
func TestAllExpressions(t *testing.T) {
	for _, c := range []struct {
		most  int
		words string
	}{
		{5, "a 1 - + * < and or not if then else table zone ( )"},
		{6, "a - + == or and not ( )"},
		{8, "a - * % ( )"},
		{9, "a if then else or not"},
		{8, "a <= < and not )"},
		{9, "a table zone / ( )"},
	} {
		n := 0
		walk(nexts(nil, parts["WHOLE"], nil), nil, c.most, strings.Fields(c.words), func(l []string, permitted bool) {
			n++
			s := strings.Join(l, " ")
			checkExprTokens(t, s)
			if !permitted {
				at := len(s) - len(l[len(l)-1])
				for _, more := range []string{" a", " )", " ;", " else 1"} {
					if _, got, e := ParseExpr(s + more); got != at || e != api.ErrSyntax {
						t.Fatalf("%q: %d, %d", s+more, got, e)
					}
				}
			}
		})
		if n < 1000 {
			t.Error(c.words, n)
		}
	}
}

// P15.1: so does a declaration.
func TestAllDeclarations(t *testing.T) {
	for _, c := range []struct {
		most  int
		words string
	}{
		{4, reservedWords + " a home homes 1 ; , : = < ( - +"},
		{9, "rule a in except : 1 ;"},
		{10, "rule r from until grace vary : 1 ;"},
		{8, "rule r : uses home shop hall apart 1 ;"},
		{11, "rule r : plane base slope 1 4 ;"},
		{8, "table a b else - 1 ;"},
		{8, "define a = 1 - ( ) ;"},
		{11, "sun , - 1 0 ;"},
		{12, "view v least : 1 21 ;"},
		{12, "cap c homes runoff 1 0 ;"},
		{11, "zone overlay a 0 1 ;"},
		{7, "hours 1 25 ; sun"},
	} {
		n := 0
		walk(nexts(nil, parts["PLAN"], nil), nil, c.most, strings.Fields(c.words), func(l []string, permitted bool) {
			n++
			checkText(t, strings.Join(l, " "))
		})
		if n < 50 {
			t.Error(c.words, n)
		}
	}
}

// someNames are few, so that they come again.
var someNames = []string{"a", "b", "c", "home", "homes", "shop", "core", "height", "traffic", "x1", "row", "abcdefghijklmnopqrst"}

func someName(r *rand.Rand) string { return someNames[r.Intn(len(someNames))] }

// someExpr returns a valid expression of at most some levels.
func someExpr(r *rand.Rand, most int) api.Expr {
	op := r.Intn(api.ExOps)
	if most == 1 || r.Intn(4) == 0 {
		op = r.Intn(4)
	}
	switch op {
	case api.ExNum:
		return api.Expr{Op: op, N: []int{0, 1, 7, 12, 1 << 40}[r.Intn(5)]}
	case api.ExName, api.ExZone:
		return api.Expr{Op: op, S: someName(r)}
	case api.ExTable:
		return api.Expr{Op: op, S: someName(r), Key: someName(r)}
	}
	e := api.Expr{Op: op}
	n := 2
	if op == api.ExNeg || op == api.ExNot {
		n = 1
	} else if op == api.ExIf {
		n = 3
	}
	for range n {
		e.Args = append(e.Args, someExpr(r, most-1))
	}
	return e
}

var somePolygons = [][]api.Point{
	{{X: 0, Y: 0}, {X: 4, Y: 0}, {X: 4, Y: 4}, {X: 0, Y: 4}},
	{{X: 0, Y: 0}, {X: 3, Y: 0}, {X: 3, Y: 1}, {X: 1, Y: 1}, {X: 1, Y: 2}, {X: 0, Y: 2}},
	{{X: 5, Y: 0}, {X: 1 << 20, Y: 0}, {X: 1 << 20, Y: 1 << 20}, {X: 5, Y: 1 << 20}},
}

func somePlace(r *rand.Rand) api.Point3 {
	return api.Point3{X: r.Intn(1<<20 + 1), Y: r.Intn(9), Z: r.Intn(1<<12 + 1)}
}

func someNumber(r *rand.Rand, most int) int {
	return []int{0, 1, 5, most - 1, most, r.Intn(most + 1)}[r.Intn(6)]
}

func someSigned(r *rand.Rand, most int) int { return someNumber(r, most) * (1 - 2*r.Intn(2)) }

func someList(r *rand.Rand, most int) []string {
	var l []string
	for range r.Intn(most + 1) {
		l = append(l, someName(r))
	}
	return l
}

func someRule(r *rand.Rand, name string) api.Rule {
	u := api.Rule{Name: name, Zones: someList(r, 3), Except: someList(r, 2), Vary: r.Intn(2) == 0, Kind: r.Intn(api.RkKinds)}
	if r.Intn(2) == 0 {
		u.From = someNumber(r, 1<<30-1)
	}
	if r.Intn(2) == 0 {
		u.Until = []int{u.From + 1, 1 << 30}[r.Intn(2)]
	}
	if r.Intn(2) == 0 {
		u.Grace = someNumber(r, 1<<30)
	}
	switch u.Kind {
	case api.RkTest:
		u.Test = someExpr(r, 1+r.Intn(4))
	case api.RkPlane:
		u.Plane = api.Plane{Side: r.Intn(4), Base: someNumber(r, 1<<12), Num: someNumber(r, 1<<12), Den: max(1, someNumber(r, 1<<12))}
	case api.RkUses:
		u.Uses = 1 + r.Intn(63)
	case api.RkApart:
		u.Uses, u.Other, u.N = r.Intn(6), r.Intn(6), someNumber(r, 1<<20)
	}
	return u
}

// somePlan returns a valid plan.
func somePlan(r *rand.Rand) api.Plan {
	var p api.Plan
	names := r.Perm(len(someNames))
	for _, i := range names[:r.Intn(3)] {
		p.Defs = append(p.Defs, api.Def{Name: someNames[i], Body: someExpr(r, 1+r.Intn(5))})
	}
	for _, i := range names[:r.Intn(3)] {
		t := api.Table{Name: someNames[i], Else: someSigned(r, 1<<40)}
		for _, j := range r.Perm(len(someNames))[:r.Intn(4)] {
			t.Rows = append(t.Rows, api.Entry{Name: someNames[j], N: someSigned(r, 1<<40)})
		}
		p.Tables = append(p.Tables, t)
	}
	for _, i := range names[:r.Intn(3)] {
		p.Zones = append(p.Zones, api.Zone{Name: someNames[i], Overlay: r.Intn(2) == 0, Corners: somePolygons[r.Intn(3)]})
	}
	for _, i := range names[:r.Intn(4)] {
		p.Rules = append(p.Rules, someRule(r, someNames[i]))
	}
	for _, i := range names[:r.Intn(3)] {
		p.Caps = append(p.Caps, api.Cap{Name: someNames[i], Load: r.Intn(3), Limit: someNumber(r, 1<<40), Corners: somePolygons[r.Intn(3)]})
	}
	for _, i := range names[:r.Intn(3)] {
		v := api.View{Name: someNames[i], Eye: somePlace(r), Least: r.Intn(21)}
		for range 1 + r.Intn(4) {
			v.Targets = append(v.Targets, somePlace(r))
		}
		p.Views = append(p.Views, v)
	}
	for range r.Intn(4) {
		p.Sun = append(p.Sun, api.Point3{X: someSigned(r, 1<<12), Y: someSigned(r, 1<<12), Z: max(1, someNumber(r, 1<<12))})
	}
	p.Hours = r.Intn(25) * r.Intn(2)
	return p
}
