package syntax

import (
	"cmp"
	"math"
	"reflect"
	"slices"
	"strconv"
	"strings"
	"testing"

	"greenbelt/api"
	"greenbelt/lex"
)

// whole is the canonical text of a plan with every part that a plan can have.
const whole = `define tall = if zone core then 30 else 12 ;
define odd = not ( a == 1 or b < - c ) and table t home <= 3 ;
define sum = a + b - c * d / 2 % 3 ;
table empty else 0 ;
table traffic home 5 shop - 20 else - 1 ;
zone core 0 0 100 0 100 80 0 80 ;
overlay river 20 0 40 0 40 80 20 80 ;
rule a in core b except river from 10 until 90 grace 5 vary : height <= tall ;
rule b : plane 2 base 9 slope 3 2 ;
rule c in core : uses home shop hall ;
rule d until 7 : apart home plant 20 ;
cap roads traffic 5000 0 0 200 0 200 200 0 200 ;
view tower 10 11 2 least 2 : 50 51 40 60 61 41 ;
sun 1 0 2 , 0 1 3 , - 1 - 2 4 ;
hours 2 ;
`

func name(s string) api.Expr { return api.Expr{Op: api.ExName, S: s} }

func num(n int) api.Expr { return api.Expr{Op: api.ExNum, N: n} }

func of(op int, args ...api.Expr) api.Expr { return api.Expr{Op: op, Args: args} }

// wholePlan is the plan that whole says.
func wholePlan() api.Plan {
	return api.Plan{
		Defs: []api.Def{
			{Name: "tall", Body: of(api.ExIf, api.Expr{Op: api.ExZone, S: "core"}, num(30), num(12))},
			{Name: "odd", Body: of(api.ExAnd,
				of(api.ExNot, of(api.ExOr, of(api.ExEq, name("a"), num(1)), of(api.ExLess, name("b"), of(api.ExNeg, name("c"))))),
				of(api.ExAtMost, api.Expr{Op: api.ExTable, S: "t", Key: "home"}, num(3)))},
			{Name: "sum", Body: of(api.ExSub, of(api.ExAdd, name("a"), name("b")),
				of(api.ExMod, of(api.ExDiv, of(api.ExMul, name("c"), name("d")), num(2)), num(3)))},
		},
		Tables: []api.Table{
			{Name: "empty"},
			{Name: "traffic", Rows: []api.Entry{{Name: "home", N: 5}, {Name: "shop", N: -20}}, Else: -1},
		},
		Zones: []api.Zone{
			{Name: "core", Corners: []api.Point{{X: 0, Y: 0}, {X: 100, Y: 0}, {X: 100, Y: 80}, {X: 0, Y: 80}}},
			{Name: "river", Overlay: true, Corners: []api.Point{{X: 20, Y: 0}, {X: 40, Y: 0}, {X: 40, Y: 80}, {X: 20, Y: 80}}},
		},
		Rules: []api.Rule{
			{Name: "a", Zones: []string{"core", "b"}, Except: []string{"river"}, From: 10, Until: 90, Grace: 5, Vary: true,
				Kind: api.RkTest, Test: of(api.ExAtMost, name("height"), name("tall"))},
			{Name: "b", Kind: api.RkPlane, Plane: api.Plane{Side: api.South, Base: 9, Num: 3, Den: 2}},
			{Name: "c", Zones: []string{"core"}, Kind: api.RkUses, Uses: 1<<api.UsHome + 1<<api.UsShop + 1<<api.UsHall},
			{Name: "d", Until: 7, Kind: api.RkApart, Uses: api.UsHome, Other: api.UsPlant, N: 20},
		},
		Caps: []api.Cap{
			{Name: "roads", Load: api.LdTraffic, Limit: 5000, Corners: []api.Point{{X: 0, Y: 0}, {X: 200, Y: 0}, {X: 200, Y: 200}, {X: 0, Y: 200}}},
		},
		Views: []api.View{
			{Name: "tower", Eye: api.Point3{X: 10, Y: 11, Z: 2}, Least: 2, Targets: []api.Point3{{X: 50, Y: 51, Z: 40}, {X: 60, Y: 61, Z: 41}}},
		},
		Sun:   []api.Point3{{X: 1, Y: 0, Z: 2}, {X: 0, Y: 1, Z: 3}, {X: -1, Y: -2, Z: 4}},
		Hours: 2,
	}
}

// marked returns a text without its first sign @, and where that stood.
func marked(s string) (string, int) {
	before, after, _ := strings.Cut(s, "@")
	return before + after, len(before)
}

// parses checks that a text says a plan.
func parses(t *testing.T, s string, want api.Plan) {
	t.Helper()
	if p, at, e := Parse(s); !equal(p, want) || at != 0 || e != api.OK {
		t.Errorf("Parse(%.200q): %+v, %d, %d", s, p, at, e)
	}
}

// fits checks that a text says some plan.
func fits(t *testing.T, s string) {
	t.Helper()
	if p, at, e := Parse(s); at != 0 || e != api.OK || !Right(p) {
		t.Errorf("Parse(%.200q): %d, %d", s, at, e)
	}
}

// fails checks that a text has an error where the sign @ stands.
func fails(t *testing.T, s string, want api.Errno) {
	t.Helper()
	text, wantAt := marked(s)
	if p, at, e := Parse(text); !equal(p, api.Plan{}) || at != wantAt || e != want {
		t.Errorf("Parse(%.200q): %+v, %d, %d, not %d, %d", text, p, at, e, wantAt, want)
	}
}

// exprFails does the same for expressions.
func exprFails(t *testing.T, s string, want api.Errno) {
	t.Helper()
	text, wantAt := marked(s)
	if e, at, err := ParseExpr(text); !equal(e, api.Expr{}) || at != wantAt || err != want {
		t.Errorf("ParseExpr(%.200q): %+v, %d, %d, not %d, %d", text, e, at, err, wantAt, want)
	}
}

// refused checks that a plan is not valid.
func refused(t *testing.T, p api.Plan) {
	t.Helper()
	if s, e := Print(p); Right(p) || s != "" || e != api.ErrArg {
		t.Errorf("Print(%+v): %q, %d", p, s, e)
	}
}

// exprRefused checks that an expression is not valid.
func exprRefused(t *testing.T, e api.Expr) {
	t.Helper()
	if s, err := PrintExpr(e); RightExpr(e) || s != "" || err != api.ErrArg {
		t.Errorf("PrintExpr(%+v): %q, %d", e, s, err)
	}
}

// square is the text of a polygon.
const square = " 0 0 4 0 4 4 0 4 ;"

var corners = []api.Point{{X: 0, Y: 0}, {X: 4, Y: 0}, {X: 4, Y: 4}, {X: 0, Y: 4}}

// numbered repeats a text with other names: the sign # is a number in it.
func numbered(s string, from, to int) string {
	all := ""
	for i := from; i < to; i++ {
		all += strings.ReplaceAll(s, "#", strconv.Itoa(i))
	}
	return all
}

// P15.1, P15.2: a plan with every part.
func TestWhole(t *testing.T) {
	parses(t, whole, wholePlan())
	if s, e := Print(wholePlan()); s != whole || e != api.OK || !Right(wholePlan()) {
		t.Error(s, e)
	}
	parses(t, strings.ReplaceAll(strings.ReplaceAll(whole, "\n", ""), " ;", ";"), wholePlan())
}

// The examples of the chapter.
func TestExamples(t *testing.T) {
	e, _, err := ParseExpr("a+b*2<c")
	if s, f := PrintExpr(e); err != api.OK || s != "a + b * 2 < c" || f != api.OK {
		t.Error(err, s, f)
	}
	if s, f := PrintExpr(of(api.ExMul, num(2), of(api.ExAdd, name("a"), name("b")))); s != "2 * ( a + b )" || f != api.OK {
		t.Error(s, f)
	}
	parses(t, "zone core 0 0 4 0 4 4 0 4;", api.Plan{Zones: []api.Zone{{Name: "core", Corners: corners}}})
	fails(t, "hours @25;", api.ErrRange)
	fails(t, "define @if = 1;", api.ErrSyntax)
	fails(t, "define a = @;", api.ErrSyntax)
	fails(t, "zone a 0 0 4 0 4 4@;", api.ErrShape)
	fails(t, "rule r: uses home @home;", api.ErrTwice)
}

// P15.1: each declaration with the fewest and with more parts.
func TestDeclarations(t *testing.T) {
	rule := func(r api.Rule) api.Plan { return api.Plan{Rules: []api.Rule{r}} }
	l := []api.Point3{{X: 1, Y: 2, Z: 3}, {X: 4, Y: 5, Z: 6}}
	for s, want := range map[string]api.Plan{
		"":                                       {},
		" \t\n ":                                 {},
		"define a = 0 ;":                         {Defs: []api.Def{{Name: "a"}}},
		"define a = b ; define b = a;":           {Defs: []api.Def{{Name: "a", Body: name("b")}, {Name: "b", Body: name("a")}}},
		"table a else 0 ;":                       {Tables: []api.Table{{Name: "a"}}},
		"table a else - 0 ;":                     {Tables: []api.Table{{Name: "a"}}},
		"table a a 1 b 2 else -3;":               {Tables: []api.Table{{Name: "a", Rows: []api.Entry{{Name: "a", N: 1}, {Name: "b", N: 2}}, Else: -3}}},
		"zone a" + square:                        {Zones: []api.Zone{{Name: "a", Corners: corners}}},
		"overlay a" + square:                     {Zones: []api.Zone{{Name: "a", Overlay: true, Corners: corners}}},
		"overlay b" + square + "zone a" + square: {Zones: []api.Zone{{Name: "b", Overlay: true, Corners: corners}, {Name: "a", Corners: corners}}},
		"rule a : 0 ;":                           rule(api.Rule{Name: "a"}),
		"rule a : b ;":                           rule(api.Rule{Name: "a", Test: name("b")}),
		"rule a : table b c ;":                   rule(api.Rule{Name: "a", Test: api.Expr{Op: api.ExTable, S: "b", Key: "c"}}),
		"rule a : zone b ;":                      rule(api.Rule{Name: "a", Test: api.Expr{Op: api.ExZone, S: "b"}}),
		"rule a : if 1 then 2 else 3 ;":          rule(api.Rule{Name: "a", Test: of(api.ExIf, num(1), num(2), num(3))}),
		"rule a in a a except a a : 0 ;":         rule(api.Rule{Name: "a", Zones: []string{"a", "a"}, Except: []string{"a", "a"}}),
		"rule a from 0 grace 0 : 0 ;":            rule(api.Rule{Name: "a"}),
		"rule home : uses hall ;":                rule(api.Rule{Name: "home", Kind: api.RkUses, Uses: 32}),
		"rule a : uses hall plant park work shop home ;": rule(api.Rule{Name: "a", Kind: api.RkUses, Uses: 63}),
		"rule a : apart home home 0 ;":                   rule(api.Rule{Name: "a", Kind: api.RkApart}),
		"rule a : apart shop work 7 ;":                   rule(api.Rule{Name: "a", Kind: api.RkApart, Uses: 1, Other: 2, N: 7}),
		"rule a : apart hall park 7 ;":                   rule(api.Rule{Name: "a", Kind: api.RkApart, Uses: 5, Other: 3, N: 7}),
		"rule a : plane 1 base 2 slope 3 4 ;":            rule(api.Rule{Name: "a", Kind: api.RkPlane, Plane: api.Plane{Side: 1, Base: 2, Num: 3, Den: 4}}),
		"cap homes homes 0" + square:                     {Caps: []api.Cap{{Name: "homes", Load: api.LdHomes, Corners: corners}}},
		"cap a traffic 1" + square:                       {Caps: []api.Cap{{Name: "a", Load: api.LdTraffic, Limit: 1, Corners: corners}}},
		"cap a runoff 1" + square:                        {Caps: []api.Cap{{Name: "a", Load: api.LdRunoff, Limit: 1, Corners: corners}}},
		"view a 1 2 3 least 0 : 4 5 6 ;":                 {Views: []api.View{{Name: "a", Eye: l[0], Targets: l[1:]}}},
		"view a 4 5 6 least 9 : 1 2 3 4 5 6 ;":           {Views: []api.View{{Name: "a", Eye: l[1], Least: 9, Targets: l}}},
		"sun 1 2 3 ;":                                    {Sun: l[:1]},
		"sun 1 2 3 , 4 5 6 ;":                            {Sun: l},
		"sun - 1 - 2 3 , - 0 5 6 ;":                      {Sun: []api.Point3{{X: -1, Y: -2, Z: 3}, {X: 0, Y: 5, Z: 6}}},
		"hours 0 ;":                                      {},
		"hours 24 ; sun 1 2 3 ;":                         {Hours: 24, Sun: l[:1]},
	} {
		parses(t, s, want)
	}
}

// P15.1, P15.2: a rule with every choice of its parts.
func TestRuleParts(t *testing.T) {
	texts := []string{" in z y", " except x", " from 4", " until 9", " grace 3", " vary"}
	bodies := []string{" height < 9", " plane 3 base 2 slope 1 5", " uses work", " apart park hall 6"}
	for choice := range 1 << len(texts) {
		for kind, body := range bodies {
			s, r := "rule a", api.Rule{Name: "a", Kind: kind}
			for i, part := range texts {
				if choice>>i&1 == 1 {
					s += part
					[]func(){
						func() { r.Zones = []string{"z", "y"} }, func() { r.Except = []string{"x"} }, func() { r.From = 4 },
						func() { r.Until = 9 }, func() { r.Grace = 3 }, func() { r.Vary = true },
					}[i]()
				}
			}
			s += " :" + body + " ;\n"
			[]func(){
				func() { r.Test = of(api.ExLess, name("height"), num(9)) },
				func() { r.Plane = api.Plane{Side: api.North, Base: 2, Num: 1, Den: 5} },
				func() { r.Uses = 1 << api.UsWork }, func() { r.Uses, r.Other, r.N = api.UsPark, api.UsHall, 6 },
			}[kind]()
			p := api.Plan{Rules: []api.Rule{r}}
			parses(t, s, p)
			if text, e := Print(p); text != s || e != api.OK {
				t.Errorf("%q: %q, %d", s, text, e)
			}
		}
	}
	// They have one order only, and stand once.
	for i, a := range texts {
		for j, b := range texts {
			if at := "rule a" + a; i >= j && !(a == " vary" && b == " vary") {
				fails(t, at+" @"+b[1:]+" : 1 ;", api.ErrSyntax)
			}
		}
	}
	fails(t, "rule a vary @vary : 1 ;", api.ErrSyntax)
}

// P15.1: what lex refuses comes before all other errors.
func TestTokens(t *testing.T) {
	fails(t, "@!", api.ErrToken)
	fails(t, "define @A = 1 ;", api.ErrToken)
	fails(t, "if if @> ;", api.ErrToken)
	fails(t, "hours 25 ; define @abcdefghijklmnopqrstu = 1 ;", api.ErrName)
	fails(t, "hours 1 ; hours @01 ;", api.ErrRange)
	fails(t, "else @1099511627777 !", api.ErrRange)
	fails(t, "@"+strings.Repeat(" ", 8001), api.ErrFull)
	fails(t, "@"+strings.Repeat("!", 8001), api.ErrFull)
	fits(t, "hours 1 ;"+strings.Repeat(" ", 7991))
	fits(t, strings.Repeat("\n", 7991)+"hours 1 ;")
	fails(t, "@hours 1 ;"+strings.Repeat(" ", 7992), api.ErrFull)
	fails(t, strings.Repeat(" ", 7999)+"@;", api.ErrSyntax)
	exprFails(t, "a @A", api.ErrToken)
	exprFails(t, "+ @abcdefghijklmnopqrstu", api.ErrName)
	exprFails(t, "+ @00", api.ErrRange)
	exprFails(t, "@a"+strings.Repeat(" ", 8000), api.ErrFull)
	if e, at, err := ParseExpr("a" + strings.Repeat(" ", 7999)); !equal(e, name("a")) || at != 0 || err != api.OK {
		t.Error(at, err)
	}
}

// P15.1: a reserved word stands nowhere where a name must stand; other words do.
func TestReservedWordsAsNames(t *testing.T) {
	for _, c := range []struct{ text, permitted string }{
		{"define @ = 1 ;", ""},
		{"define a = @ ;", "if not table zone"},
		{"define a = - @ ;", "table zone"},
		{"define a = table @ b ;", ""},
		{"define a = table b @ ;", ""},
		{"define a = zone @ ;", ""},
		{"table @ else 1 ;", ""},
		{"table a @ 1 else 1 ;", "else"},
		{"table a b 1 @ 1 else 1 ;", "else"},
		{"zone @" + square, ""},
		{"overlay @" + square, ""},
		{"rule @ : 1 ;", ""},
		{"rule a in @ : 1 ;", ""},
		{"rule a in b @ : 1 ;", "except from until grace vary :"},
		{"rule a except @ : 1 ;", ""},
		{"rule a except b @ : 1 ;", "from until grace vary :"},
		{"rule a : @ ;", "if not table zone plane uses apart"},
		{"cap @ homes 1" + square, ""},
		{"view @ 1 1 1 least 1 : 1 1 1 ;", ""},
	} {
		for _, word := range strings.Fields(reservedWords + " ; , : = == < <= * / % )") {
			if !slices.Contains(strings.Fields(c.permitted), word) {
				fails(t, strings.Replace(c.text, "@", "@"+word+" ", 1), api.ErrSyntax)
			}
		}
		for _, word := range strings.Fields("a1 home homes traffic shop ands i rules abcdefghijklmnopqrst") {
			fits(t, strings.Replace(c.text, "@", word, 1))
		}
	}
}

// P15.1: each number at the ends of its range, one beyond them, and what is no number there.
func TestNumbers(t *testing.T) {
	const coord, height, day, load = 1 << 20, 1 << 12, 1 << 30, 1 << 40
	for _, c := range []struct {
		text        string
		least, most int
	}{
		{"table a else # ;", -load, load},
		{"table a b # else 0 ;", -load, load},
		{"table a b 1 c # else 0 ;", -load, load},
		{"rule a from # : 1 ;", 0, day},
		{"rule a until # : 1 ;", 1, day},
		{"rule a from 0 until # : 1 ;", 1, day},
		{"rule a from 7 until # : 1 ;", 8, day},
		{"rule a from 1073741823 until # : 1 ;", day, day},
		{"rule a grace # : 1 ;", 0, day},
		{"rule a from 9 until 10 grace # : 1 ;", 0, day},
		{"rule a : plane # base 0 slope 0 1 ;", 0, 3},
		{"rule a : plane 0 base # slope 0 1 ;", 0, height},
		{"rule a : plane 0 base 0 slope # 1 ;", 0, height},
		{"rule a : plane 0 base 0 slope 0 # ;", 1, height},
		{"rule a : apart home home # ;", 0, coord},
		{"cap a homes #" + square, 0, load},
		{"view a # 0 0 least 0 : 0 0 0 ;", 0, coord},
		{"view a 0 # 0 least 0 : 0 0 0 ;", 0, coord},
		{"view a 0 0 # least 0 : 0 0 0 ;", 0, height},
		{"view a 0 0 0 least # : 0 0 0 ;", 0, 20},
		{"view a 0 0 0 least 0 : # 0 0 ;", 0, coord},
		{"view a 0 0 0 least 0 : 0 # 0 ;", 0, coord},
		{"view a 0 0 0 least 0 : 0 0 # ;", 0, height},
		{"view a 0 0 0 least 0 : 0 0 0 # 0 0 ;", 0, coord},
		{"view a 0 0 0 least 0 : 0 0 0 0 0 # ;", 0, height},
		{"sun # 0 1 ;", -height, height},
		{"sun 0 # 1 ;", -height, height},
		{"sun 0 0 # ;", 1, height},
		{"sun 0 0 1 , # 0 1 ;", -height, height},
		{"sun 0 0 1 , 0 # 1 ;", -height, height},
		{"sun 0 0 1 , 0 0 # ;", 1, height},
		{"hours # ;", 0, 24},
	} {
		at := func(s string) string { return strings.Replace(c.text, "#", s, 1) }
		fits(t, at(strconv.Itoa(c.most)))
		fits(t, at(strconv.Itoa(max(c.least, 0))))
		fails(t, at("@"+strconv.Itoa(c.most+1)), api.ErrRange)
		if c.least > 0 {
			fails(t, at("@"+strconv.Itoa(c.least-1)), api.ErrRange)
		}
		if c.least < 0 {
			fits(t, at("-"+strconv.Itoa(c.most)))
			fits(t, at("- 0"))
			fails(t, at("- @"+strconv.Itoa(c.most+1)), api.ErrRange)
			for _, other := range []string{"- 1", ";", "a", "(", ",", "else", "home"} {
				fails(t, at("- @"+other+" "), api.ErrSyntax)
			}
		} else {
			fails(t, at("@- 1"), api.ErrSyntax)
			fails(t, at("@-"), api.ErrSyntax)
		}
		for _, other := range []string{"a", "if", "home", "+ 1", "(", ":", "=", ","} {
			fails(t, at("@"+other+" "), api.ErrSyntax)
		}
		// A list of targets may end there.
		if !strings.Contains(c.text, ": 0 0 0 #") {
			fails(t, at("@; "), api.ErrSyntax)
		}
		before, _, _ := strings.Cut(c.text, "#")
		fails(t, before+"@", api.ErrSyntax)
	}
	// A number of an expression has the greatest range that a token can have.
	fits(t, "define a = 1099511627776 ;")
	fails(t, "define a = @1099511627777 ;", api.ErrRange)
}

// P15.1: the coordinates of polygons.
func TestCorners(t *testing.T) {
	for _, begin := range []string{"zone a", "overlay a", "cap a homes 1"} {
		fits(t, begin+" 0 0 1048576 0 1048576 1048576 0 1048576 ;")
		fails(t, begin+" @1048577 0 1048576 0 1048576 1048576 0 1048576 ;", api.ErrRange)
		fails(t, begin+" 0 @1048577 1048576 0 1048576 1048576 0 1048576 ;", api.ErrRange)
		fails(t, begin+" 0 0 1048576 0 @1048577 1048576 0 1048576 ;", api.ErrRange)
		fails(t, begin+" 0 0 1048576 0 1048576 1048576 0 @1048577 ;", api.ErrRange)
		fails(t, begin+" 0 0 0 0 0 0 0 0 0 0 @1048577 0 ;", api.ErrRange)
		fails(t, begin+" 0 0 1048576 0 1048576 1048576 @- 1 1048576 ;", api.ErrSyntax)
		for _, other := range []string{"", "a ", ": ", ", ", "- 1 "} {
			fails(t, begin+" @"+other, api.ErrSyntax)
			fails(t, begin+" 0 @"+other, api.ErrSyntax)
			fails(t, begin+" 0 0 @"+other, api.ErrSyntax)
			fails(t, begin+" 0 0 4 0 4 4 0 4 5 @"+other, api.ErrSyntax)
		}
		fails(t, begin+" @;", api.ErrSyntax)
		fails(t, begin+" 0 @;", api.ErrSyntax)
		fails(t, begin+" 0 0 4 0 4 4 0 @;", api.ErrSyntax)
		// Any number of points follows the grammar.
		fails(t, begin+" 0 0 @;", api.ErrShape)
		fails(t, begin+" 0 0 4 0 4 4 @;", api.ErrShape)
		fails(t, begin+" 0 0 0 4 4 4 4 0 @;", api.ErrShape)
		fails(t, begin+" 4 0 4 4 0 4 0 0 @;", api.ErrShape)
		fails(t, begin+" 0 0 4 0 4 4 1 4 @;", api.ErrShape)
		fails(t, begin+" 0 0 4 0 4 4 0 4 0 4 @;", api.ErrShape)
		fails(t, begin+" 0 0 4 0 4 4 2 4 2 0 0 0 @;", api.ErrShape)
		fits(t, begin+stairs(60)+" ;")
		fails(t, begin+stairs(62)+" @;", api.ErrShape)
		fails(t, begin+strings.Repeat(" 0 0", 1900)+" @;", api.ErrShape)
	}
}

// stairs is the text of the corners of stairs; it is a polygon if there are not too many of them.
func stairs(corners int) string {
	s, steps := " 0 0", corners/2-1
	for i := range steps {
		x, y := strconv.Itoa(steps-i), strconv.Itoa(i+1)
		s += " " + x + " " + strconv.Itoa(i) + " " + x + " " + y
	}
	return s + " 0 " + strconv.Itoa(steps)
}

// P15.1: as many declarations, rows, targets and directions as there may be, and one more.
func TestFull(t *testing.T) {
	for _, c := range []struct {
		before, each, after string
		most                int
	}{
		{"", "define a# = 1 ;", "", 60},
		{"", "table a# else 1 ;", "", 60},
		{"", "zone a#" + square, "", 60},
		{"", "overlay a#" + square, "", 60},
		{"zone a" + square + "overlay b" + square, "zone a#" + square, "", 58},
		{"zone a" + square + "overlay b" + square, "overlay a#" + square, "", 58},
		{"", "rule a# : 1 ;", "", 200},
		{"", "cap a# homes 1" + square, "", 30},
		{"", "view a# 0 0 0 least 0 : 0 0 0 ;", "", 60},
		{"table t", " a# 1", " else 1 ;", 60},
		{"table t", " a# - 1", " else 1 ;", 60},
		{"view v 0 0 0 least 0 :", " 0 0 0", " ;", 20},
		{"sun 0 0 1", " , 0 0 1", " ;", 23},
		{"sun 0 0 1", " , - 1 0 1", " ;", 23},
	} {
		all := c.before + numbered(c.each, 0, c.most)
		fits(t, all+c.after)
		next := strings.ReplaceAll(c.each, "#", strconv.Itoa(c.most))
		// The blank or the comma before an element does not belong to it.
		first := len(next) - len(strings.TrimLeft(next, " ,"))
		next = next[:first] + "@" + next[first:]
		fails(t, all+next+c.after, api.ErrFull)
		fails(t, all+next, api.ErrFull)
		fails(t, all+next[:first+2+strings.IndexAny(next[first+2:]+" ", " ")], api.ErrFull)
		fails(t, all+next+" 9999999 ; define if hours 25 ;", api.ErrFull)
	}
	// Of each list there may be as many, whatever there is of the others.
	fits(t, numbered("define a#=1;", 0, 60)+numbered("table a# else 1;", 0, 60)+numbered("view a# 0 0 0 least 0:0 0 0;", 0, 60)+
		numbered("rule a#:1;", 0, 200)+numbered("cap a# homes 1 0 0 4 0 4 4 0 4;", 0, 30))
}

// P15.1, P15.2: expressions of 12 and of 13 levels, with operators of each kind at each place.
func TestLevels(t *testing.T) {
	for _, outer := range simple() {
		for place := range outer.Args {
			e := name("a")
			for range 11 {
				args := slices.Clone(outer.Args)
				args[place] = e
				e = of(outer.Op, args...)
			}
			checkLevels(t, e, outer, place)
		}
	}
	fits(t, "define a = "+strings.Repeat("(", 500)+"1"+strings.Repeat(")", 500)+" ;")
	exprFails(t, strings.Repeat("-", 12)+"a@", api.ErrFull)
	exprFails(t, strings.Repeat("-", 7999)+"a@", api.ErrFull)
	exprFails(t, strings.Repeat("-", 8000)+"@", api.ErrSyntax)
	exprFails(t, strings.Repeat("(", 8000)+"@", api.ErrSyntax)
	exprFails(t, strings.Repeat("(", 3999)+"a"+strings.Repeat(")", 4000-1)+"@)", api.ErrSyntax)
	exprFails(t, strings.Repeat("not ", 1999)+"a@", api.ErrFull)
	exprFails(t, "a"+strings.Repeat("+a", 12)+"@", api.ErrFull)
	exprFails(t, "a"+strings.Repeat("+a", 3999)+"@", api.ErrFull)
	exprFails(t, strings.Repeat("if a then b else ", 400)+"c@", api.ErrFull)
	if e, at, err := ParseExpr(strings.Repeat("(", 3999) + "a" + strings.Repeat(")", 3999)); !equal(e, name("a")) || at != 0 || err != api.OK {
		t.Error(at, err)
	}
}

// checkLevels looks at an expression that has 12 levels, and at one that has it as an operand.
func checkLevels(t *testing.T, e, outer api.Expr, place int) {
	t.Helper()
	s, err := PrintExpr(e)
	back, at, f := ParseExpr(s)
	if !RightExpr(e) || err != api.OK || !equal(back, e) || at != 0 || f != api.OK {
		t.Error(s, err, at, f)
	}
	p := api.Plan{Defs: []api.Def{{Name: "b", Body: e}}, Rules: []api.Rule{{Name: "c", Test: e}}}
	text := "define b = " + s + " ;\nrule c : " + s + " ;\n"
	parses(t, text, p)
	if got, err := Print(p); got != text || err != api.OK || !Right(p) {
		t.Error(got, err)
	}
	args := slices.Clone(outer.Args)
	args[place] = e
	more := of(outer.Op, args...)
	exprRefused(t, more)
	refused(t, api.Plan{Defs: []api.Def{{Name: "a", Body: more}}})
	refused(t, api.Plan{Rules: []api.Rule{{Name: "a", Test: more}}})
	text = strings.ReplaceAll(lex.Text(exprSaid(more)), "( b )", "b")
	exprFails(t, text+" @", api.ErrFull)
	fails(t, "define b = "+text+" @; else", api.ErrFull)
	fails(t, "rule b : "+text+" @;", api.ErrFull)
	fails(t, "rule b : "+text+" @)", api.ErrSyntax)
}

// P15.1: names and uses that stand twice, and the sun and the hours.
func TestTwice(t *testing.T) {
	kinds := []string{"define # = 1 ;", "table # else 1 ;", "zone #" + square, "rule # : 1 ;", "cap # homes 1" + square, "view # 0 0 0 least 0 : 0 0 0 ;"}
	all := ""
	for _, a := range kinds {
		one := strings.Replace(a, "#", "home", 1)
		other := strings.Replace(a, "#", "other", 1)
		again := strings.Replace(a, "#", "@home", 1)
		fails(t, one+again, api.ErrTwice)
		fails(t, one+other+again+"else", api.ErrTwice)
		all += one
	}
	// Different kinds may have the same names.
	fits(t, all)
	fails(t, "zone a"+square+"overlay @a"+square, api.ErrTwice)
	fails(t, "overlay a"+square+"zone @a"+square, api.ErrTwice)
	fails(t, "overlay a"+square+"overlay @a"+square, api.ErrTwice)
	fails(t, "define a @if", api.ErrSyntax)
	fails(t, "define a = 1 ; define @a", api.ErrTwice)
	fails(t, "table t a 1 b 2 @a 3 else 0 ;", api.ErrTwice)
	fails(t, "table t a 1 @a", api.ErrTwice)
	fits(t, "table t a 1 t 2 else 0 ; table a a 1 t 2 else 0 ;")
	fails(t, "rule r : uses home @home ;", api.ErrTwice)
	fails(t, "rule r : uses shop hall work @hall home", api.ErrTwice)
	fits(t, "rule r : uses hall home ; rule s : uses hall home ; rule t : apart hall hall 1 ;")
	fails(t, "sun 0 0 1 ; @sun 0 0 1 ;", api.ErrTwice)
	fails(t, "sun 0 0 1 ; hours 1 ; @sun ;", api.ErrTwice)
	fails(t, "hours 0 ; @hours 0 ;", api.ErrTwice)
	fails(t, "hours 1 ; sun 0 0 1 ; @hours", api.ErrTwice)
}

// P15.1: tokens that the grammar does not permit.
func TestSyntax(t *testing.T) {
	for _, s := range []string{
		"@;", "@a", "@1", "@if", "@: hours 1 ;", "hours 1 @1 ;", "hours 1 ; @; hours 1 ;", "hours 1 @", "hours @", "@home", "@homes", "@uses home ;",
		"define @", "define a @", "define a @1 ;", "define a @: 1 ;", "define a @== 1 ;", "define a = @", "define a = 1 @", "define a = 1 @, 2 ;", "define a = 1 @define",
		"table @", "table t @", "table t @1", "table t a @", "table t a @b", "table t a 1 @", "table t a 1 @2", "table t a 1 @;", "table t @;", "table t else 1 @a", "table t else @else", "table t else - @", "table t a - @a",
		"zone @", "zone @0 0", "overlay @", "overlay a @b",
		"rule @", "rule r @", "rule r @;", "rule r @0 ;", "rule r in @", "rule r in a @, b : 1 ;", "rule r in a @in b : 1 ;", "rule r : @", "rule r : 1 @", "rule r : @;",
		"rule r : uses1@", "rule r : uses @", "rule r : uses @;", "rule r : uses @homes ;", "rule r : uses home @, shop ;", "rule r : uses home @1 ;", "rule r : uses home @if", "rule r : uses home @",
		"rule r : apart @", "rule r : apart @1", "rule r : apart home @", "rule r : apart home @1 ;", "rule r : apart home @homes 1 ;", "rule r : apart home shop @;", "rule r : apart home shop @work 1 ;", "rule r : apart home shop 1 @2 ;",
		"rule r : plane @", "rule r : plane @a", "rule r : plane 0 @0", "rule r : plane 0 @slope 0 1 base 0 ;", "rule r : plane 0 base @", "rule r : plane 0 base 1 @1", "rule r : plane 0 base 1 slope 1 @;", "rule r : plane 0 base 1 slope 1 1 @1 ;", "rule r : plane 0 base 1 slope 1 @/ 2 ;",
		"cap @", "cap @1", "cap c @", "cap c @home 1", "cap c @1", "cap c homes @", "cap c homes @traffic 1",
		"view @", "view v @", "view v 1 2 @least", "view v 1 2 3 @4", "view v 1 2 3 @: 1 2 3 ;", "view v 1 2 3 least 1 @2", "view v 1 2 3 least 1 : @;", "view v 1 2 3 least 1 : 1 2 @;", "view v 1 2 3 least 1 : 1 2 3 @, 1 2 3 ;", "view v 1 2 3 least 1 : 1 2 3 1 @;",
		"sun @", "sun @;", "sun @a", "sun 0 0 1 @", "sun 0 0 1 @0 0 1 ;", "sun 0 0 1 , @", "sun 0 0 1 , @;", "sun 0 0 1 , @, 0 0 1 ;", "sun 0 0 @- 1 ;",
	} {
		fails(t, s, api.ErrSyntax)
	}
}

// P15.1: tokens that an expression does not permit.
func TestExprSyntax(t *testing.T) {
	for _, s := range []string{
		"@", " \t@", "@)", "(@", "(@)", "(a@", "(a @b)", "a@)", "((a)@", "a @b", "a @1", "1 @a", "1 @1", "a @(b)", "a @if b then c else d",
		"a +@", "a + @+ b", "a - @* b", "@* a", "@+ a", "@== a", "@and a", "a and @and b", "a or @", "a == @== b", "a @= b", "a @: b", "a @; b", "a @, b",
		"a == b @== c", "a == b @< c", "a < b @<= c", "a <= b @== c", "a < b + c @< d", "not a < b @< c", "( a < b @< c )", "if a < b @< c then d else e", "a < - b @< c", "a < b * c - d @<= e",
		"a < @not b", "a + @not b", "a * @not b", "- @not a", "a == @not b", "- - @not a",
		"not @", "not @)", "not @== a", "-@", "- @) ", "- @/ a",
		"a or @if b then c else d", "a and @if b then c else d", "not @if b then c else d", "- @if b then c else d", "a < @if b then c else d", "a * @if b then c else d",
		"if@", "if @then a else b", "if a@", "if a @else b", "if a @b", "if a @if b", "if a then@", "if a then @else b", "if a then b@", "if a then b @then c", "if a then b else@", "if a then b else @then", "if a then b else c @else d", "if a then b else c @then d", "if if a then b else c @else d", "if a then if b then c else d@", "( if a then b @)", "( if a @) then b else c",
		"table@", "table @1", "table a@", "table a @1", "table a @+ b", "table a b @c", "table a b @1", "table @( a ) b", "zone@", "zone @1", "zone @( a )", "zone a @b", "zone @zone a", "- zone @- a",
		"@;", "@define", "@uses home", "@plane 1", "@apart home home 1", "@else", "@then", "@or", "@, a", "a @, b", "@in", "@vary",
	} {
		exprFails(t, s, api.ErrSyntax)
		if !strings.HasSuffix(s, "@") && !strings.HasSuffix(s, "@) ") {
			exprFails(t, s+" ) ) ;", api.ErrSyntax)
		}
	}
}

// P15.1: of several errors at a token the first one of the list is reported, and of several tokens the first one.
func TestFirstError(t *testing.T) {
	rows := "table t" + numbered(" a# 1", 0, 60)
	targets := "view v 0 0 0 least 0 :" + strings.Repeat(" 0 0 0", 20)
	directions := "sun 0 0 1" + strings.Repeat(" , 0 0 1", 23)
	deep := "define a = " + strings.Repeat("- ", 12) + "1"
	// A token that is not permitted, where a limit would be exceeded.
	fails(t, rows+" @if 1 else 1 ;", api.ErrSyntax)
	fails(t, rows+" @1 else 1 ;", api.ErrSyntax)
	fails(t, rows+" @;", api.ErrSyntax)
	fails(t, targets+" @a", api.ErrSyntax)
	fails(t, targets+" @- 1 0 0 ;", api.ErrSyntax)
	fails(t, directions+" @0 0 1 ;", api.ErrSyntax)
	fails(t, directions+" , @a 0 1 ;", api.ErrSyntax)
	fails(t, directions+" , @;", api.ErrSyntax)
	fails(t, directions+" ,@", api.ErrSyntax)
	fails(t, numbered("define a# = 1 ;", 0, 60)+"@defines", api.ErrSyntax)
	fails(t, numbered("define a# = 1 ;", 0, 60)+"@=", api.ErrSyntax)
	fails(t, deep+" @, ;", api.ErrSyntax)
	fails(t, deep+" @) ;", api.ErrSyntax)
	fails(t, deep+" @1 ;", api.ErrSyntax)
	fails(t, deep+"@", api.ErrSyntax)
	fails(t, "define a = ( "+strings.Repeat("- ", 12)+"1 @;", api.ErrSyntax)
	fails(t, "define a = "+strings.Repeat("- ", 12)+"@;", api.ErrSyntax)
	exprFails(t, "("+strings.Repeat("-", 12)+"1@", api.ErrSyntax)
	exprFails(t, strings.Repeat("-", 12)+"1 @;", api.ErrSyntax)
	// A name, a use or a declaration that stands twice, where the grammar does not permit it.
	fails(t, "rule r : uses home @homes ;", api.ErrSyntax)
	fails(t, "rule r : apart home home @home ;", api.ErrSyntax)
	fails(t, "sun 0 0 1 @sun 0 0 1 ;", api.ErrSyntax)
	fails(t, "hours 1 @hours 1 ;", api.ErrSyntax)
	fails(t, "define a = 1 ; define a1 @a = 1 ;", api.ErrSyntax)
	fails(t, "table t a 1 b @a else 1 ;", api.ErrSyntax)
	// A number that is not in any range, where the grammar does not permit one.
	fails(t, "hours @- 25 ;", api.ErrSyntax)
	fails(t, "hours 1 @9999999 ;", api.ErrSyntax)
	fails(t, "rule @9999999 : 1 ;", api.ErrSyntax)
	// Points that are no polygon, where the grammar does not permit a semicolon.
	fails(t, "zone a 0 0 4 @;", api.ErrSyntax)
	fails(t, "cap a homes 1 @;", api.ErrSyntax)
	fails(t, "zone a 0 0 4 0 @:", api.ErrSyntax)
	// One too many that stands twice, too, or is beyond its range.
	fails(t, rows+" @a0 1 else 1 ;", api.ErrFull)
	fails(t, targets+" @1048577 0 0 ;", api.ErrFull)
	fails(t, directions+" , @4097 0 1 ;", api.ErrFull)
	fails(t, directions+" , @- 4097 0 1 ;", api.ErrFull)
	fails(t, numbered("define a# = 1 ;", 0, 60)+"@define a0 = 1 ;", api.ErrFull)
	// The first token with an error.
	fails(t, "hours @25 ; hours 25 ;", api.ErrRange)
	fails(t, "hours @25 else", api.ErrRange)
	fails(t, "hours @25 ; define if", api.ErrRange)
	fails(t, "hours 1 ; @hours 25 ;", api.ErrTwice)
	fails(t, "define a = 1 ; define @a 1 ;", api.ErrTwice)
	fails(t, "table t a 1 @a b else", api.ErrTwice)
	fails(t, "zone a 0 0 @1048577 0 ;", api.ErrRange)
	fails(t, "zone a 0 0 @; hours 25 ;", api.ErrShape)
	fails(t, "zone a 0 0 @; zone a 0 0 ;", api.ErrShape)
	fails(t, "zone a 0 0 4 0 @else", api.ErrSyntax)
	fails(t, deep+" @; define a = 1 ;", api.ErrFull)
	fails(t, deep+" @; if", api.ErrFull)
	fails(t, deep+" + @; hours 25 ;", api.ErrSyntax)
	fails(t, "rule r from @1073741825 until 1 : 1 ;", api.ErrRange)
	fails(t, "rule r from 5 until @5 grace 1073741825 : 1 ;", api.ErrRange)
	fails(t, "rule r from 1073741824 until @1073741824 : 1 ;", api.ErrRange)
	fails(t, "rule r from 1073741824 until @0 : 1 ;", api.ErrRange)
	fails(t, "rule r : plane @4 base 4097 slope 4097 0 ;", api.ErrRange)
	fails(t, "rule r : uses home @home home if", api.ErrTwice)
	fails(t, targets+" @0 if", api.ErrFull)
}

// P15.2: expressions that no text says.
func TestExprRefused(t *testing.T) {
	a, b := name("a"), name("b")
	for _, e := range []api.Expr{
		{Op: -1}, {Op: api.ExOps}, {Op: math.MinInt}, {Op: math.MaxInt},
		num(-1), num(1<<40 + 1), num(math.MinInt), num(math.MaxInt), {S: "a"}, {Key: "a"}, {Args: []api.Expr{num(1)}},
		name(""), name("if"), name("A"), name("1"), name("a b"), name("abcdefghijklmnopqrstu"), {Op: api.ExName, S: "a", N: 1}, {Op: api.ExName, S: "a", Key: "a"}, of(api.ExName, a),
		{Op: api.ExName, S: "a", Args: []api.Expr{a}},
		{Op: api.ExTable}, {Op: api.ExTable, S: "a"}, {Op: api.ExTable, Key: "a"}, {Op: api.ExTable, S: "a", Key: "or"}, {Op: api.ExTable, S: "or", Key: "a"},
		{Op: api.ExTable, S: "a", Key: "b", N: 1}, {Op: api.ExTable, S: "a", Key: "b", Args: []api.Expr{a}},
		{Op: api.ExZone}, {Op: api.ExZone, S: "zone"}, {Op: api.ExZone, S: "a", Key: "a"}, {Op: api.ExZone, S: "a", N: 1}, {Op: api.ExZone, S: "a", Args: []api.Expr{a}},
	} {
		exprRefused(t, e)
		refused(t, api.Plan{Defs: []api.Def{{Name: "a", Body: e}}})
		refused(t, api.Plan{Rules: []api.Rule{{Name: "a", Test: e}}})
		for _, outer := range simple() {
			for place := range outer.Args {
				args := slices.Clone(outer.Args)
				args[place] = e
				exprRefused(t, of(outer.Op, args...))
			}
		}
	}
	for _, e := range simple()[4:] {
		exprRefused(t, of(e.Op))
		exprRefused(t, of(e.Op, e.Args[1:]...))
		exprRefused(t, of(e.Op, append([]api.Expr{b}, e.Args...)...))
		exprRefused(t, api.Expr{Op: e.Op, Args: e.Args, N: 1})
		exprRefused(t, api.Expr{Op: e.Op, Args: e.Args, S: "a"})
		exprRefused(t, api.Expr{Op: e.Op, Args: e.Args, Key: "a"})
	}
	loop := of(api.ExNot, a)
	loop.Args[0] = loop
	exprRefused(t, loop)
	deep := a
	for range 1 << 16 {
		deep = of(api.ExNeg, deep)
	}
	exprRefused(t, deep)
	if !Same(api.Plan{Defs: []api.Def{{Body: deep}}}, api.Plan{Defs: []api.Def{{Body: deep}}}) {
		t.Error("not the same")
	}
}

// P15.2: plans that no text says.
func TestRefused(t *testing.T) {
	for i, change := range []func(p *api.Plan){
		func(p *api.Plan) { p.Defs[0].Name = "" },
		func(p *api.Plan) { p.Defs[0].Name = "define" },
		func(p *api.Plan) { p.Defs[0].Name = "a b" },
		func(p *api.Plan) { p.Defs[1].Name = p.Defs[0].Name },
		func(p *api.Plan) { p.Tables[0].Name = "Table" },
		func(p *api.Plan) { p.Tables[0].Name = p.Tables[1].Name },
		func(p *api.Plan) { p.Tables[1].Rows[0].Name = "else" },
		func(p *api.Plan) { p.Tables[1].Rows[0].Name = p.Tables[1].Rows[1].Name },
		func(p *api.Plan) { p.Tables[1].Rows[0].N = 1<<40 + 1 },
		func(p *api.Plan) { p.Tables[1].Rows[0].N = -1<<40 - 1 },
		func(p *api.Plan) { p.Tables[1].Rows[0].N = math.MinInt },
		func(p *api.Plan) { p.Tables[1].Else = 1<<40 + 1 },
		func(p *api.Plan) { p.Tables[1].Else = -1<<40 - 1 },
		func(p *api.Plan) { p.Zones[0].Name = "" },
		func(p *api.Plan) { p.Zones[0].Name = p.Zones[1].Name },
		func(p *api.Plan) { p.Zones[0].Corners = nil },
		func(p *api.Plan) { p.Zones[0].Corners = p.Zones[0].Corners[:3] },
		func(p *api.Plan) { p.Zones[1].Corners[0].X = -1 },
		func(p *api.Plan) { p.Rules[0].Name = "in" },
		func(p *api.Plan) { p.Rules[0].Name = "b" },
		func(p *api.Plan) { p.Rules[0].Zones[1] = "except" },
		func(p *api.Plan) { p.Rules[0].Except[0] = "" },
		func(p *api.Plan) { p.Rules[0].From = -1 },
		func(p *api.Plan) { p.Rules[0].From = 90 },
		func(p *api.Plan) { p.Rules[0].From = math.MaxInt },
		func(p *api.Plan) { p.Rules[0].From, p.Rules[0].Until = 1<<30+1, 0 },
		func(p *api.Plan) { p.Rules[0].Until = 10 },
		func(p *api.Plan) { p.Rules[0].Until = -1 },
		func(p *api.Plan) { p.Rules[0].Until = 1<<30 + 1 },
		func(p *api.Plan) { p.Rules[0].From, p.Rules[0].Until = 1<<30, 1<<30+1 },
		func(p *api.Plan) { p.Rules[0].Grace = -1 },
		func(p *api.Plan) { p.Rules[0].Grace = 1<<30 + 1 },
		func(p *api.Plan) { p.Rules[0].Kind = -1 },
		func(p *api.Plan) { p.Rules[0].Kind = api.RkKinds },
		func(p *api.Plan) { p.Rules[0].Plane.Base = 1 },
		func(p *api.Plan) { p.Rules[0].Uses = 1 },
		func(p *api.Plan) { p.Rules[0].Other = 1 },
		func(p *api.Plan) { p.Rules[0].N = 1 },
		func(p *api.Plan) { p.Rules[1].Test = num(1) },
		func(p *api.Plan) { p.Rules[1].Test.Op = 1 },
		func(p *api.Plan) { p.Rules[1].Test.S = "a" },
		func(p *api.Plan) { p.Rules[1].Test.Key = "a" },
		func(p *api.Plan) { p.Rules[1].Test.Args = []api.Expr{num(0)} },
		func(p *api.Plan) { p.Rules[1].Uses = 1 },
		func(p *api.Plan) { p.Rules[1].Other = -1 },
		func(p *api.Plan) { p.Rules[1].N = 1 },
		func(p *api.Plan) { p.Rules[1].Plane = api.Plane{} },
		func(p *api.Plan) { p.Rules[1].Plane.Side = 4 },
		func(p *api.Plan) { p.Rules[1].Plane.Side = -1 },
		func(p *api.Plan) { p.Rules[1].Plane.Base = 4097 },
		func(p *api.Plan) { p.Rules[1].Plane.Base = -1 },
		func(p *api.Plan) { p.Rules[1].Plane.Num = 4097 },
		func(p *api.Plan) { p.Rules[1].Plane.Num = -1 },
		func(p *api.Plan) { p.Rules[1].Plane.Den = 4097 },
		func(p *api.Plan) { p.Rules[2].Uses = 0 },
		func(p *api.Plan) { p.Rules[2].Uses = 64 },
		func(p *api.Plan) { p.Rules[2].Uses = 65 },
		func(p *api.Plan) { p.Rules[2].Uses = -1 },
		func(p *api.Plan) { p.Rules[2].Other = 1 },
		func(p *api.Plan) { p.Rules[2].N = 1 },
		func(p *api.Plan) { p.Rules[2].Plane.Den = 1 },
		func(p *api.Plan) { p.Rules[2].Test = name("a") },
		func(p *api.Plan) { p.Rules[3].Uses = -1 },
		func(p *api.Plan) { p.Rules[3].Uses = 6 },
		func(p *api.Plan) { p.Rules[3].Other = -1 },
		func(p *api.Plan) { p.Rules[3].Other = 6 },
		func(p *api.Plan) { p.Rules[3].N = -1 },
		func(p *api.Plan) { p.Rules[3].N = 1<<20 + 1 },
		func(p *api.Plan) { p.Rules[3].Plane.Num = 1 },
		func(p *api.Plan) { p.Rules[3].Test = num(1) },
		func(p *api.Plan) { p.Caps[0].Name = "cap" },
		func(p *api.Plan) { p.Caps = append(p.Caps, p.Caps[0]) },
		func(p *api.Plan) { p.Caps[0].Load = -1 },
		func(p *api.Plan) { p.Caps[0].Load = api.LdKinds },
		func(p *api.Plan) { p.Caps[0].Limit = -1 },
		func(p *api.Plan) { p.Caps[0].Limit = 1<<40 + 1 },
		func(p *api.Plan) { p.Caps[0].Corners = nil },
		func(p *api.Plan) { slices.Reverse(p.Caps[0].Corners) },
		func(p *api.Plan) { p.Views[0].Name = "least" },
		func(p *api.Plan) { p.Views = append(p.Views, p.Views[0]) },
		func(p *api.Plan) { p.Views[0].Eye.X = -1 },
		func(p *api.Plan) { p.Views[0].Eye.Y = 1<<20 + 1 },
		func(p *api.Plan) { p.Views[0].Eye.Z = 4097 },
		func(p *api.Plan) { p.Views[0].Least = -1 },
		func(p *api.Plan) { p.Views[0].Least = 21 },
		func(p *api.Plan) { p.Views[0].Targets = nil },
		func(p *api.Plan) { p.Views[0].Targets[1].X = 1<<20 + 1 },
		func(p *api.Plan) { p.Views[0].Targets[1].Y = -1 },
		func(p *api.Plan) { p.Views[0].Targets[1].Z = 4097 },
		func(p *api.Plan) { p.Sun[1].X = 4097 },
		func(p *api.Plan) { p.Sun[1].X = -4097 },
		func(p *api.Plan) { p.Sun[1].Y = 4097 },
		func(p *api.Plan) { p.Sun[1].Y = math.MinInt },
		func(p *api.Plan) { p.Sun[1].Z = 0 },
		func(p *api.Plan) { p.Sun[1].Z = 4097 },
		func(p *api.Plan) { p.Hours = -1 },
		func(p *api.Plan) { p.Hours = 25 },
		func(p *api.Plan) { p.Hours = math.MinInt },
	} {
		p := flat(wholePlan())
		change(&p)
		if s, e := Print(p); Right(p) || s != "" || e != api.ErrArg {
			t.Error(i, s, e)
		}
	}
}

// P15.2: lists as long as they may be, and longer ones.
func TestLongLists(t *testing.T) {
	texts := []string{"define a# = 1 ;\n", "table a# else 1 ;\n", "zone a# 0 0 4 0 4 4 0 4 ;\n", "overlay a# 0 0 4 0 4 4 0 4 ;\n", "rule a# : 1 ;\n", "cap a# homes 1 0 0 4 0 4 4 0 4 ;\n", "view a# 0 0 0 least 0 : 0 0 0 ;\n"}
	for i, most := range []int{60, 60, 60, 60, 200, 30, 60} {
		s := numbered(texts[i], 0, most)
		p, at, e := Parse(s)
		if text, err := Print(p); at != 0 || e != api.OK || text != s || err != api.OK || !Right(p) {
			t.Error(at, e, text, err)
		}
		p.Defs = append(p.Defs, api.Def{Name: "last"})
		p.Tables = append(p.Tables, api.Table{Name: "last"})
		p.Zones = append(p.Zones, api.Zone{Name: "last", Corners: corners})
		p.Rules = append(p.Rules, api.Rule{Name: "last"})
		p.Caps = append(p.Caps, api.Cap{Name: "last", Corners: corners})
		p.Views = append(p.Views, api.View{Name: "last", Targets: []api.Point3{{}}})
		refused(t, p)
	}
	for _, c := range []struct {
		n  int
		is bool
	}{{1, true}, {20, true}, {21, false}, {24, false}, {60, false}, {1 << 20, false}} {
		if p := (api.Plan{Views: []api.View{{Name: "v", Targets: make([]api.Point3, c.n)}}}); Right(p) != c.is {
			t.Error("targets", c.n)
		}
	}
	for _, n := range []int{1, 23, 24, 25, 1 << 20} {
		if p := (api.Plan{Sun: slices.Repeat([]api.Point3{{Z: 1}}, n)}); Right(p) != (n <= 24) {
			t.Error("sun", n)
		}
	}
	for _, n := range []int{0, 59, 60, 61} {
		table := api.Table{Name: "t"}
		for i := range n {
			table.Rows = append(table.Rows, api.Entry{Name: "a" + strconv.Itoa(i)})
		}
		if p := (api.Plan{Tables: []api.Table{table}}); Right(p) != (n <= 60) {
			t.Error("rows", n)
		}
	}
}

// P15.2: valid plans whose text is too long.
func TestTooLong(t *testing.T) {
	long := slices.Repeat([]string{"abcdefghijklmnopqrst"}, 380)
	p := api.Plan{Rules: []api.Rule{{Name: "r", Zones: append(long, "abc"), Test: num(1)}}}
	s, e := Print(p)
	if len(s) != 8000 || e != api.OK {
		t.Fatal(len(s), e)
	}
	parses(t, s, p)
	p.Rules[0].Zones[380] = "abcd"
	if s, e := Print(p); s != "" || e != api.ErrFull || !Right(p) {
		t.Error(len(s), e)
	}
	p.Hours = 1
	if s, e := Print(p); s != "" || e != api.ErrFull || !Right(p) {
		t.Error(len(s), e)
	}
	p.Rules[0].Except = slices.Repeat([]string{"b"}, 1<<20)
	if s, e := Print(p); s != "" || e != api.ErrFull || !Right(p) {
		t.Error(len(s), e)
	}
	// What is not valid comes before what is too long.
	p.Hours = 25
	refused(t, p)
	p.Hours = 0
	p.Rules[0].Except[1<<20-1] = "if"
	refused(t, p)
}

// P15.2: valid expressions whose text is too long.
func TestTooLongExpr(t *testing.T) {
	long, l := num(1), []api.Expr{}
	for range 512 {
		l = append(l, name("a"))
	}
	sum := balanced(l)
	s, e := PrintExpr(sum)
	for i := 0; len(s) < 8000; i++ {
		l[i%512].S += "b"
		sum = balanced(l)
		s, e = PrintExpr(sum)
	}
	back, _, err := ParseExpr(s)
	if len(s) != 8000 || e != api.OK || !equal(back, sum) || err != api.OK {
		t.Error(len(s), e, err)
	}
	l[0].S += "b"
	if s, e := PrintExpr(balanced(l)); s != "" || e != api.ErrFull || !RightExpr(balanced(l)) {
		t.Error(len(s), e)
	}
	for range 10 {
		long = of(api.ExIf, long, long, long)
	}
	last := of(api.ExIf, long, long, of(api.ExAdd, num(1), num(1)))
	if s, e := PrintExpr(last); s != "" || e != api.ErrFull || !RightExpr(last) {
		t.Error(len(s), e)
	}
	last.Args[2].Args[1].N = -1
	exprRefused(t, last)
}

// balanced returns a sum.
func balanced(l []api.Expr) api.Expr {
	if len(l) == 1 {
		return l[0]
	}
	n := len(l) / 2
	return of(api.ExAdd, balanced(l[:n]), balanced(l[n:]))
}

// P15.3: names.
func TestName(t *testing.T) {
	for _, word := range strings.Fields(reservedWords) {
		for _, s := range []string{word, word + "s", word + "1", word + " ", " " + word, strings.ToUpper(word), word[1:], word[:len(word)-1], word + word} {
			if Name(s) != isName(s) {
				t.Error(s)
			}
		}
	}
	if n := len(strings.Fields(reservedWords)); n != 27 {
		t.Error(n)
	}
	for s, is := range map[string]bool{
		"a": true, "z9": true, "a0": true, "home": true, "homes": true, "traffic": true, "end": true, "row": true, "limit": true, "abcdefghijklmnopqrst": true, "rule1": true,
		"": false, " ": false, "a ": false, "a b": false, "A": false, "aB": false, "a_b": false, "1": false, "1a": false, "abcdefghijklmnopqrstu": false, "a\n": false, "ä": false, "\xff": false, "if": false, "<": false,
	} {
		if Name(s) != is {
			t.Errorf("%q", s)
		}
	}
	for a := range 256 {
		for b := range 256 {
			if s := string([]byte{byte(a), byte(b)}); Name(s) != isName(s) {
				t.Errorf("%q", s)
			}
		}
	}
}

// P15.3: Same compares every field, also of plans that are not valid.
func TestSame(t *testing.T) {
	for _, p := range []api.Plan{wholePlan(), oddPlan()} {
		if !Same(p, flat(p)) {
			t.Error("not the same")
		}
		for i := range fields(reflect.ValueOf(&p).Elem()) {
			q := flat(p)
			v := fields(reflect.ValueOf(&q).Elem())[i]
			differs(t, p, &q, func() {
				switch v.Kind() {
				case reflect.Int:
					v.SetInt(v.Int() + 1)
				case reflect.String:
					v.SetString(v.String() + "a")
				case reflect.Bool:
					v.SetBool(!v.Bool())
				case reflect.Slice:
					v.Set(reflect.Append(v, reflect.Zero(v.Type().Elem())))
				}
			})
		}
	}
	var none, empty api.Plan
	for _, v := range fields(reflect.ValueOf(&empty).Elem()) {
		if v.Kind() == reflect.Slice {
			v.Set(reflect.MakeSlice(v.Type(), 0, 3))
		}
	}
	if !Same(none, empty) || !Same(empty, none) {
		t.Error("empty lists")
	}
}

// differs checks that Same sees a change of one of two equal plans.
func differs(t *testing.T, p api.Plan, q *api.Plan, change func()) {
	t.Helper()
	if !Same(p, *q) || !Same(*q, p) {
		t.Fatalf("%+v and %+v", p, *q)
	}
	change()
	if Same(p, *q) || Same(*q, p) {
		t.Fatalf("%+v and %+v", p, *q)
	}
}

// oddPlan has something in every field, and is not valid.
func oddPlan() api.Plan {
	e := api.Expr{Op: 99, N: -1, S: "!", Key: "?", Args: []api.Expr{{Op: -1, Args: []api.Expr{{}}}, num(2)}}
	return api.Plan{
		Defs:   []api.Def{{Body: e}, {}},
		Tables: []api.Table{{Rows: []api.Entry{{}, {}}}, {}},
		Zones:  []api.Zone{{Corners: []api.Point{{}, {}}}, {}},
		Rules:  []api.Rule{{Zones: []string{"", ""}, Except: []string{"", ""}, Test: e}, {}},
		Caps:   []api.Cap{{Corners: []api.Point{{}, {}}}, {}},
		Views:  []api.View{{Targets: []api.Point3{{}, {}}}, {}},
		Sun:    []api.Point3{{}, {}},
		Hours:  -1,
	}
}

// withMore returns a copy of a value whose lists have more elements behind their ends.
func withMore[T any](x T) T {
	v := reflect.ValueOf(&x).Elem()
	for _, f := range fields(v) {
		if f.Kind() == reflect.Slice {
			c := reflect.MakeSlice(f.Type(), f.Len()+2, f.Len()+2)
			reflect.Copy(c, f)
			f.Set(c.Slice(0, f.Len()))
		}
	}
	return x
}

// P15.4: arguments are neither modified, nor read behind the ends of their lists, and results do not depend on earlier calls.
func TestArguments(t *testing.T) {
	for _, p := range []api.Plan{wholePlan(), oddPlan(), {}} {
		want, wantE := Print(p)
		more := withMore(flat(p))
		behind := elementsBehind(reflect.ValueOf(&more).Elem())
		for range 2 {
			s, e := Print(more)
			if s != want || e != wantE || Right(more) != (wantE == api.OK) || !Same(more, p) || !Same(p, more) || !equal(more, p) {
				t.Error(s, e)
			}
		}
		for _, v := range behind {
			if !v.IsZero() {
				t.Error(v)
			}
		}
	}
	e := withMore(flat(wholePlan().Defs[1].Body))
	s, err := PrintExpr(e)
	if s != "not ( a == 1 or b < - c ) and table t home <= 3" || err != api.OK || !RightExpr(e) || !equal(e, wholePlan().Defs[1].Body) {
		t.Error(s, err)
	}
}

// elementsBehind returns the elements behind the ends of all lists.
func elementsBehind(v reflect.Value) []reflect.Value {
	var l []reflect.Value
	for _, f := range fields(v) {
		if f.Kind() == reflect.Slice {
			for i := f.Len(); i < f.Cap(); i++ {
				l = append(l, f.Slice(0, f.Cap()).Index(i))
			}
		}
	}
	return l
}

// P15.4: no two lists of results have memory in common, not even behind their ends.
func TestFresh(t *testing.T) {
	var all []reflect.Value
	for range 2 {
		p, _, _ := Parse(whole)
		e, _, _ := ParseExpr("if a + b * c then not d or e and f else - g < h")
		all = append(all, fields(reflect.ValueOf(&p).Elem())...)
		all = append(all, fields(reflect.ValueOf(&e).Elem())...)
	}
	type part struct{ from, to uintptr }
	var parts []part
	for _, v := range all {
		if v.Kind() == reflect.Slice && v.Cap() > 0 {
			parts = append(parts, part{v.Pointer(), v.Pointer() + uintptr(v.Cap())*v.Type().Elem().Size()})
		}
	}
	slices.SortFunc(parts, func(a, b part) int { return cmp.Compare(a.from, b.from) })
	for i := 1; i < len(parts); i++ {
		if parts[i].from < parts[i-1].to {
			t.Error("shared")
		}
	}
	if len(parts) < 60 {
		t.Error(len(parts))
	}
}
