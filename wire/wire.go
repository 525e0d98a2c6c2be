// Package wire is layer 1, a canonical encoding as text: see shared/doc/01-wire.md.
package wire

import (
	"math"
	"strconv"
	"strings"
)

// Num returns the encoding of an int as a number: the empty string if it is negative.
func Num(n int) string {
	if n < 0 {
		return ""
	}
	return Int(n)
}

// Int returns the encoding of an int.
func Int(n int) string { return strconv.Itoa(n) + ";" }

// Text returns the encoding of a string.
func Text(s string) string { return strconv.Itoa(len(s)) + ":" + s + "," }

// Nums returns the encoding of a list of ints.
func Nums(l []int) string { return list(l, Int) }

// Texts returns the encoding of a list of strings.
func Texts(l []string) string { return list(l, Text) }

// list returns the encoding of a list whose elements are encoded by one.
func list[T any](l []T, one func(T) string) string {
	var b strings.Builder
	b.WriteString(strconv.Itoa(len(l)))
	b.WriteByte('[')
	for _, x := range l {
		b.WriteString(one(x))
	}
	b.WriteByte(']')
	return b.String()
}

// Reader reads values. A reader that has failed has no rest, and no encoding is empty, so it goes on failing.
type Reader struct {
	rest   string
	failed bool
}

// Open returns a reader of a string.
func Open(s string) *Reader { return &Reader{rest: s} }

// Num reads a number.
func (r *Reader) Num() int { return int(r.digits(';', math.MaxInt)) }

// Int reads an int.
func (r *Reader) Int() int {
	if !strings.HasPrefix(r.rest, "-") {
		return r.Num()
	}
	r.rest = r.rest[1:]
	// The least int has an absolute value that is no int.
	n := r.digits(';', -math.MinInt)
	if n == 0 {
		r.fail() // -0 would be a second encoding of 0
	}
	return int(-n)
}

// Text reads a string.
func (r *Reader) Text() string {
	n := int(r.digits(':', math.MaxInt))
	// Compared without adding to n, which may be the greatest int.
	if n >= len(r.rest) || r.rest[n] != ',' {
		r.fail()
		return ""
	}
	s := r.rest[:n]
	r.rest = r.rest[n+1:]
	return s
}

// Nums reads a list of ints.
func (r *Reader) Nums() []int { return elements(r, r.Int) }

// Texts reads a list of strings.
func (r *Reader) Texts() []string { return elements(r, r.Text) }

// elements reads a list whose elements are read from r by one.
func elements[T any](r *Reader, one func() T) []T {
	var l []T
	// The list grows with what is there: the length may be greater than any memory.
	for range r.digits('[', math.MaxInt) {
		x := one()
		if r.failed {
			return nil
		}
		l = append(l, x)
	}
	if !strings.HasPrefix(r.rest, "]") {
		r.fail()
		return nil
	}
	r.rest = r.rest[1:]
	return l
}

// Rest returns the bytes that have not been read, and moves the reader to the end.
func (r *Reader) Rest() string {
	s := r.rest
	r.rest = ""
	return s
}

// Left returns the number of bytes that have not been read.
func (r *Reader) Left() int { return len(r.rest) }

// Done reports whether everything was read.
func (r *Reader) Done() bool { return !r.failed && r.rest == "" }

// digits reads the digits of an integer that is at most most, and the byte end after them.
func (r *Reader) digits(end byte, most uint64) uint64 {
	n, i := uint64(0), 0
	for ; i < len(r.rest) && '0' <= r.rest[i] && r.rest[i] <= '9'; i++ {
		d := uint64(r.rest[i] - '0')
		if n > (most-d)/10 {
			r.fail()
			return 0
		}
		n = 10*n + d
	}
	padded := i > 1 && r.rest[0] == '0'
	if i == 0 || padded || i == len(r.rest) || r.rest[i] != end {
		r.fail()
		return 0
	}
	r.rest = r.rest[i+1:]
	return n
}

// fail makes all later calls fail.
func (r *Reader) fail() { r.rest, r.failed = "", true }
