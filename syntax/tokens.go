package syntax

import (
	"slices"

	"greenbelt/api"
	"greenbelt/lex"
)

// parser has the tokens that are left, and the names of what was read.
type parser struct {
	left []api.Token
	used register
}

// parsed returns what a function reads from the tokens of a text; otherwise the offset of the first error, and the error.
func parsed[T any](s string, read func(p *parser) T) (T, int, api.Errno) {
	var all, none T
	l, at, e := lex.Lex(s)
	if e != api.OK {
		return none, at, e
	}
	at, e = caught(func() { all = read(&parser{l, register{}}) })
	if e != api.OK {
		return none, at, e
	}
	return all, 0, api.OK
}

// expect fails at the next token, if something does not hold.
func (p *parser) expect(holds bool, e api.Errno) {
	if !holds {
		panic(failure{p.left[0].Pos, e})
	}
}

// at reports whether the next token has a text.
func (p *parser) at(text string) bool { return p.left[0].Text == text }

func (p *parser) atName() bool { return Name(p.left[0].Text) }

func (p *parser) atNumber() bool { return p.left[0].Kind == api.TkNumber }

// pass goes to the token after the next one.
func (p *parser) pass() api.Token {
	t := p.left[0]
	p.left = p.left[1:]
	return t
}

// skip passes the next token, if it has a text, and reports whether it has.
func (p *parser) skip(text string) bool {
	is := p.at(text)
	if is {
		p.pass()
	}
	return is
}

func (p *parser) need(text string) { p.expect(p.skip(text), api.ErrSyntax) }

func (p *parser) name() string {
	p.expect(p.atName(), api.ErrSyntax)
	return p.pass().Text
}

// fresh reads a name that is not in use for a kind.
func (p *parser) fresh(used register, kind string) string {
	p.expect(p.atName(), api.ErrSyntax)
	p.expect(used.add(kind, p.left[0].Text), api.ErrTwice)
	return p.pass().Text
}

func (p *parser) names() []string {
	var l []string
	for more := true; more; more = p.atName() {
		l = append(l, p.name())
	}
	return l
}

// number reads a number from a to b.
func (p *parser) number(a, b int) int {
	p.expect(p.atNumber(), api.ErrSyntax)
	p.expect(a <= p.left[0].N && p.left[0].N <= b, api.ErrRange)
	return p.pass().N
}

// signed reads a number from -b to b.
func (p *parser) signed(b int) int {
	if p.skip("-") {
		return -p.number(0, b)
	}
	return p.number(0, b)
}

// choice reads one of some words that is not in a set of their indices, and returns its index.
func (p *parser) choice(words []string, taken int) int {
	i := slices.Index(words, p.left[0].Text)
	p.expect(i >= 0, api.ErrSyntax)
	p.expect(taken>>i&1 == 0, api.ErrTwice)
	p.pass()
	return i
}

// end passes the token that ends something for which a condition must hold.
func (p *parser) end(text string, holds bool, e api.Errno) {
	p.expect(p.at(text), api.ErrSyntax)
	p.expect(holds, e)
	p.pass()
}

// add reads an element of a list that may have only so many.
func add[T any](p *parser, l *[]T, most int, read func() T) {
	p.expect(len(*l) < most, api.ErrFull)
	*l = append(*l, read())
}
