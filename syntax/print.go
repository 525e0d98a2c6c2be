package syntax

import (
	"strconv"

	"greenbelt/api"
	"greenbelt/polygon"
)

// printer has what was written, and the names in it.
type printer struct {
	text []byte
	used register
}

// printed returns what a function writes; otherwise the error.
func printed(write func(w *printer)) (string, api.Errno) {
	w := &printer{used: register{}}
	if _, e := caught(func() { write(w) }); e != api.OK {
		return "", e
	}
	if len(w.text) > api.MaxSource {
		return "", api.ErrFull
	}
	return string(w.text), api.OK
}

// expect fails, if something does not hold without which nothing is valid.
func (w *printer) expect(holds bool) {
	if !holds {
		panic(failure{e: api.ErrArg})
	}
}

// put writes a token.
func (w *printer) put(token string) {
	n := len(w.text)
	// A text that is too long is only checked from there on.
	if n > api.MaxSource {
		return
	}
	if n > 0 && w.text[n-1] != '\n' {
		w.text = append(w.text, ' ')
	}
	w.text = append(w.text, token...)
}

// end writes what stands behind a declaration.
func (w *printer) end() {
	w.put(";")
	w.text = append(w.text, '\n')
}

func (w *printer) name(s string) {
	w.expect(Name(s))
	w.put(s)
}

// fresh writes a name that must not be in use for a kind.
func (w *printer) fresh(used register, kind, s string) {
	w.expect(used.add(kind, s))
	w.name(s)
}

// names writes a word and names, if there are any.
func (w *printer) names(word string, l []string) {
	if len(l) > 0 {
		w.put(word)
	}
	for _, s := range l {
		w.name(s)
	}
}

// number writes a number from a to b.
func (w *printer) number(n, a, b int) {
	w.expect(a <= n && n <= b)
	w.put(strconv.Itoa(n))
}

// signed writes a number from -b to b.
func (w *printer) signed(n, b int) {
	if n < 0 {
		w.put("-")
		n = -n
	}
	w.number(n, 0, b)
}

// option writes a word and a number from a to b, if it is not 0.
func (w *printer) option(word string, n, a, b int) {
	if n != 0 {
		w.put(word)
		w.number(n, a, b)
	}
}

// choice writes one of some words.
func (w *printer) choice(words []string, i int) {
	w.expect(i >= 0 && i < len(words))
	w.put(words[i])
}

// declare writes a list of declarations that may have only so many.
func declare[T any](w *printer, l []T, most int, write func(T)) {
	w.expect(len(l) <= most)
	for _, d := range l {
		write(d)
		w.end()
	}
}

func (w *printer) plan(p api.Plan) {
	declare(w, p.Defs, api.MaxDefs, w.definition)
	declare(w, p.Tables, api.MaxDefs, w.table)
	declare(w, p.Zones, api.MaxDefs, w.zone)
	declare(w, p.Rules, api.MaxRules, w.rule)
	declare(w, p.Caps, api.MaxCaps, w.cap)
	declare(w, p.Views, api.MaxDefs, w.view)
	if len(p.Sun) > 0 {
		w.sun(p.Sun)
		w.end()
	}
	if p.Hours != 0 {
		w.put("hours")
		w.number(p.Hours, 1, api.MaxHours)
		w.end()
	}
}

func (w *printer) definition(d api.Def) {
	w.put("define")
	w.fresh(w.used, "define", d.Name)
	w.put("=")
	w.expr(d.Body, 0, api.MaxDepth)
}

func (w *printer) table(t api.Table) {
	w.put("table")
	w.fresh(w.used, "table", t.Name)
	w.expect(len(t.Rows) <= api.MaxDefs)
	rows := register{}
	for _, r := range t.Rows {
		w.fresh(rows, "row", r.Name)
		w.signed(r.N, api.MaxLoad)
	}
	w.put("else")
	w.signed(t.Else, api.MaxLoad)
}

func (w *printer) zone(z api.Zone) {
	if z.Overlay {
		w.put("overlay")
	} else {
		w.put("zone")
	}
	w.fresh(w.used, "zone", z.Name)
	w.corners(z.Corners)
}

func (w *printer) rule(r api.Rule) {
	w.put("rule")
	w.fresh(w.used, "rule", r.Name)
	w.names("in", r.Zones)
	w.names("except", r.Except)
	w.option("from", r.From, 0, api.MaxDay)
	w.option("until", r.Until, r.From+1, api.MaxDay)
	w.option("grace", r.Grace, 0, api.MaxDay)
	if r.Vary {
		w.put("vary")
	}
	w.put(":")
	w.body(r)
}

// body writes what a rule says. What its kind does not use must be 0 or empty.
func (w *printer) body(r api.Rule) {
	rest := r
	switch r.Kind {
	case api.RkTest:
		w.expr(r.Test, 0, api.MaxDepth)
		rest.Test = api.Expr{}
	case api.RkPlane:
		w.plane(r.Plane)
		rest.Plane = api.Plane{}
	case api.RkUses:
		w.uses(r.Uses)
		rest.Uses = 0
	case api.RkApart:
		w.put("apart")
		w.choice(uses(), r.Uses)
		w.choice(uses(), r.Other)
		w.number(r.N, 0, api.MaxCoord)
		rest.Uses, rest.Other, rest.N = 0, 0, 0
	default:
		w.expect(false)
	}
	w.expect(sameExpr(rest.Test, api.Expr{}) && rest.Plane == api.Plane{} && rest.Uses == 0 && rest.Other == 0 && rest.N == 0)
}

func (w *printer) plane(a api.Plane) {
	w.put("plane")
	w.number(a.Side, 0, api.Sides-1)
	w.put("base")
	w.number(a.Base, 0, api.MaxZ)
	w.put("slope")
	w.number(a.Num, 0, api.MaxZ)
	w.number(a.Den, 1, api.MaxZ)
}

// uses writes a set of uses.
func (w *printer) uses(set int) {
	w.expect(set > 0 && set < 1<<api.Uses)
	w.put("uses")
	for use, word := range uses() {
		if set>>use&1 == 1 {
			w.put(word)
		}
	}
}

func (w *printer) cap(c api.Cap) {
	w.put("cap")
	w.fresh(w.used, "cap", c.Name)
	w.choice(loads(), c.Load)
	w.number(c.Limit, 0, api.MaxLoad)
	w.corners(c.Corners)
}

func (w *printer) view(v api.View) {
	w.put("view")
	w.fresh(w.used, "view", v.Name)
	w.place(v.Eye)
	w.put("least")
	w.number(v.Least, 0, api.MaxTargets)
	w.put(":")
	w.expect(len(v.Targets) > 0 && len(v.Targets) <= api.MaxTargets)
	for _, target := range v.Targets {
		w.place(target)
	}
}

func (w *printer) sun(l []api.Point3) {
	w.expect(len(l) <= api.MaxHours)
	for i, d := range l {
		if i == 0 {
			w.put("sun")
		} else {
			w.put(",")
		}
		w.signed(d.X, api.MaxZ)
		w.signed(d.Y, api.MaxZ)
		w.number(d.Z, 1, api.MaxZ)
	}
}

func (w *printer) corners(l []api.Point) {
	w.expect(polygon.Right(l))
	for _, c := range l {
		w.put(strconv.Itoa(c.X))
		w.put(strconv.Itoa(c.Y))
	}
}

func (w *printer) place(a api.Point3) {
	w.number(a.X, 0, api.MaxCoord)
	w.number(a.Y, 0, api.MaxCoord)
	w.number(a.Z, 0, api.MaxZ)
}

// expr writes an expression that has at most so many levels, in parentheses where a level of the grammar does not permit
// its form.
func (w *printer) expr(e api.Expr, level, most int) {
	w.expect(most > 0 && e.Op >= 0 && e.Op < api.ExOps)
	w.expect(len(e.Args) == len(forms[e.Op].operands))
	open := forms[e.Op].level < level
	if open {
		w.put("(")
	}
	w.atom(e)
	for i, o := range forms[e.Op].operands {
		if o.sign != "" {
			w.put(o.sign)
		}
		w.expr(e.Args[i], o.level, most-1)
	}
	if open {
		w.put(")")
	}
}

// atom writes an expression without operands. What its kind does not use must be 0 or empty, and so must all of the others.
func (w *printer) atom(e api.Expr) {
	rest := e
	switch e.Op {
	case api.ExNum:
		w.number(e.N, 0, api.MaxLoad)
		rest.N = 0
	case api.ExName:
		w.name(e.S)
		rest.S = ""
	case api.ExTable:
		w.put("table")
		w.name(e.S)
		w.name(e.Key)
		rest.S, rest.Key = "", ""
	case api.ExZone:
		w.put("zone")
		w.name(e.S)
		rest.S = ""
	}
	w.expect(rest.N == 0 && rest.S == "" && rest.Key == "")
}
