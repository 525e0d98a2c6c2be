package syntax

import (
	"greenbelt/api"
	"greenbelt/polygon"
)

// plan reads declarations up to the end of a text, which is the only token without a text.
func (p *parser) plan() api.Plan {
	var q api.Plan
	for !p.at("") {
		p.declaration(&q)
	}
	return q
}

// declaration reads a declaration of a plan.
func (p *parser) declaration(q *api.Plan) {
	switch word := p.left[0].Text; word {
	case "define":
		add(p, &q.Defs, api.MaxDefs, p.definition)
	case "table":
		add(p, &q.Tables, api.MaxDefs, p.table)
	case "zone", "overlay":
		add(p, &q.Zones, api.MaxDefs, p.zone)
	case "rule":
		add(p, &q.Rules, api.MaxRules, p.rule)
	case "cap":
		add(p, &q.Caps, api.MaxCaps, p.cap)
	case "view":
		add(p, &q.Views, api.MaxDefs, p.view)
	case "sun":
		p.expect(p.used.add(word, ""), api.ErrTwice)
		q.Sun = p.sun()
	case "hours":
		p.expect(p.used.add(word, ""), api.ErrTwice)
		q.Hours = p.hours()
	default:
		p.expect(false, api.ErrSyntax)
	}
}

func (p *parser) definition() api.Def {
	p.need("define")
	d := api.Def{Name: p.fresh(p.used, "define")}
	p.need("=")
	d.Body = p.formula(";")
	return d
}

func (p *parser) table() api.Table {
	p.need("table")
	t := api.Table{Name: p.fresh(p.used, "table")}
	rows := register{}
	for p.atName() {
		add(p, &t.Rows, api.MaxDefs, func() api.Entry {
			return api.Entry{Name: p.fresh(rows, "row"), N: p.signed(api.MaxLoad)}
		})
	}
	p.need("else")
	t.Else = p.signed(api.MaxLoad)
	p.need(";")
	return t
}

// zone reads a base zone or an overlay, which have no name in common.
func (p *parser) zone() api.Zone {
	overlay := p.pass().Text == "overlay"
	return api.Zone{Overlay: overlay, Name: p.fresh(p.used, "zone"), Corners: p.corners()}
}

func (p *parser) rule() api.Rule {
	p.need("rule")
	r := api.Rule{Name: p.fresh(p.used, "rule")}
	if p.skip("in") {
		r.Zones = p.names()
	}
	if p.skip("except") {
		r.Except = p.names()
	}
	if p.skip("from") {
		r.From = p.number(0, api.MaxDay)
	}
	if p.skip("until") {
		r.Until = p.number(r.From+1, api.MaxDay)
	}
	if p.skip("grace") {
		r.Grace = p.number(0, api.MaxDay)
	}
	r.Vary = p.skip("vary")
	p.need(":")
	p.body(&r)
	return r
}

// body reads what a rule says, which gives it its kind.
func (p *parser) body(r *api.Rule) {
	switch {
	case p.skip("plane"):
		r.Kind, r.Plane = api.RkPlane, p.plane()
	case p.skip("uses"):
		r.Kind, r.Uses = api.RkUses, p.uses()
	case p.skip("apart"):
		r.Kind, r.Uses, r.Other, r.N = api.RkApart, p.choice(uses(), 0), p.choice(uses(), 0), p.number(0, api.MaxCoord)
	default:
		r.Kind, r.Test = api.RkTest, p.formula(";")
		return
	}
	p.need(";")
}

func (p *parser) plane() api.Plane {
	a := api.Plane{Side: p.number(0, api.Sides-1)}
	p.need("base")
	a.Base = p.number(0, api.MaxZ)
	p.need("slope")
	a.Num, a.Den = p.number(0, api.MaxZ), p.number(1, api.MaxZ)
	return a
}

// uses reads a set of uses.
func (p *parser) uses() int {
	set := 0
	for set == 0 || !p.at(";") {
		set |= 1 << p.choice(uses(), set)
	}
	return set
}

func (p *parser) cap() api.Cap {
	p.need("cap")
	return api.Cap{
		Name:    p.fresh(p.used, "cap"),
		Load:    p.choice(loads(), 0),
		Limit:   p.number(0, api.MaxLoad),
		Corners: p.corners(),
	}
}

func (p *parser) view() api.View {
	p.need("view")
	v := api.View{Name: p.fresh(p.used, "view"), Eye: p.place()}
	p.need("least")
	v.Least = p.number(0, api.MaxTargets)
	p.need(":")
	for more := true; more; more = p.atNumber() {
		add(p, &v.Targets, api.MaxTargets, p.place)
	}
	p.need(";")
	return v
}

func (p *parser) sun() []api.Point3 {
	p.need("sun")
	var l []api.Point3
	for more := true; more; more = p.skip(",") {
		p.expect(p.at("-") || p.atNumber(), api.ErrSyntax)
		add(p, &l, api.MaxHours, p.direction)
	}
	p.need(";")
	return l
}

func (p *parser) hours() int {
	p.need("hours")
	n := p.number(0, api.MaxHours)
	p.need(";")
	return n
}

// corners reads the points of a polygon and the semicolon behind them.
func (p *parser) corners() []api.Point {
	var l []api.Point
	for more := true; more; more = p.atNumber() {
		l = append(l, api.Point{X: p.number(0, api.MaxCoord), Y: p.number(0, api.MaxCoord)})
	}
	p.end(";", polygon.Right(l), api.ErrShape)
	return l
}

func (p *parser) place() api.Point3 {
	return api.Point3{X: p.number(0, api.MaxCoord), Y: p.number(0, api.MaxCoord), Z: p.number(0, api.MaxZ)}
}

func (p *parser) direction() api.Point3 {
	return api.Point3{X: p.signed(api.MaxZ), Y: p.signed(api.MaxZ), Z: p.number(1, api.MaxZ)}
}

// formula reads an expression and the token that ends it.
func (p *parser) formula(end string) api.Expr {
	e := p.expr(0)
	p.end(end, levels(e) <= api.MaxDepth, api.ErrFull)
	return e
}

// expr reads an expression of a form that a level of the grammar permits.
func (p *parser) expr(level int) api.Expr {
	e, got := p.first(level)
	for op, is := p.infix(level, got); is; op, is = p.infix(level, got) {
		e = api.Expr{Op: op, Args: p.operands(op, e)}
		// What was read is the first operand of the next operator, where its form may stand there.
		got = forms[op].level
	}
	return e
}

// first reads an expression that does not begin with an operand of its own, and returns the level of its form, too.
func (p *parser) first(level int) (api.Expr, int) {
	if op, is := p.prefix(level); is {
		return api.Expr{Op: op, Args: p.operands(op)}, forms[op].level
	}
	return p.atom(), atom
}

// prefix returns the operator whose first operand the next token opens, if a level permits its form.
func (p *parser) prefix(level int) (int, bool) {
	for op, f := range forms {
		if f.level >= level && len(f.operands) > 0 && f.operands[0].sign != "" && p.at(f.operands[0].sign) {
			return op, true
		}
	}
	return 0, false
}

// infix returns the operator that the next token is behind an operand of the level got, if a level permits its form.
func (p *parser) infix(level, got int) (int, bool) {
	for op, f := range forms {
		if f.level >= level && len(f.operands) == 2 && f.operands[0].level <= got && p.at(f.operands[1].sign) {
			return op, true
		}
	}
	return 0, false
}

// operands reads those operands of an operator that are not there yet.
func (p *parser) operands(op int, l ...api.Expr) []api.Expr {
	for _, o := range forms[op].operands[len(l):] {
		p.need(o.sign)
		l = append(l, p.expr(o.level))
	}
	return l
}

// atom reads an expression that needs parentheses nowhere, or any one in parentheses.
func (p *parser) atom() api.Expr {
	switch {
	case p.atNumber():
		return api.Expr{Op: api.ExNum, N: p.number(0, api.MaxLoad)}
	case p.skip("table"):
		return api.Expr{Op: api.ExTable, S: p.name(), Key: p.name()}
	case p.skip("zone"):
		return api.Expr{Op: api.ExZone, S: p.name()}
	case p.skip("("):
		e := p.expr(0)
		p.need(")")
		return e
	default:
		return api.Expr{Op: api.ExName, S: p.name()}
	}
}

// levels returns how many levels an expression has.
func levels(e api.Expr) int {
	most := 0
	for _, arg := range e.Args {
		most = max(most, levels(arg))
	}
	return most + 1
}
