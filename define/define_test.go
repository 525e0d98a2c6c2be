package define

import (
	"fmt"
	"math"
	"slices"
	"strings"
	"testing"

	"greenbelt/api"
)

const (
	most        = 60 // definitions of a plan
	allMeasures = "area cover floor floors height homes runoff setback traffic"
)

// word returns the name that a word of a test stands for: _ is the empty one.
func word(s string) string { return strings.ReplaceAll(s, "_", "") }

// words returns the names that a text has, with a blank between each two of them.
func words(s string) []string {
	l := strings.Fields(s)
	for i := range l {
		l[i] = word(l[i])
	}
	return l
}

func name(s string, args ...api.Expr) api.Expr { return api.Expr{Op: api.ExName, S: s, Args: args} }

// bodyOf returns an expression with names, each one in the last operand of the one before it.
func bodyOf(l []string) api.Expr {
	e := api.Expr{Op: api.ExTable, S: "table", Key: "key"}
	for _, s := range slices.Backward(l) {
		e = api.Expr{Op: api.ExSub, S: "sub", Args: []api.Expr{name(s), e}}
	}
	return e
}

// planOf returns a plan from definitions with a blank between each two of them: a=b,c is a, which uses b and c.
func planOf(s string) api.Plan {
	var p api.Plan
	for _, d := range strings.Fields(s) {
		name, uses, _ := strings.Cut(d, "=")
		p.Defs = append(p.Defs, api.Def{Name: word(name), Body: bodyOf(words(strings.ReplaceAll(uses, ",", " ")))})
	}
	return p
}

// namesAt returns the names of the definitions with some indices.
func namesAt(p api.Plan, order []int) []string {
	var l []string
	for _, i := range order {
		l = append(l, p.Defs[i].Name)
	}
	return l
}

// checkOrder fails the test if the definitions of a plan have another order of names.
func checkOrder(t *testing.T, p api.Plan, want []string) {
	t.Helper()
	order, circle, e := Order(p)
	if len(order) != len(want) || len(circle) != 0 || e != api.OK {
		t.Fatalf("%v, %q, %d, not the order %q", order, circle, e, want)
	}
	if got := namesAt(p, order); !slices.Equal(got, want) {
		t.Fatalf("the order %q, not %q", got, want)
	}
}

// checkCircle fails the test if a plan has another smallest circle.
func checkCircle(t *testing.T, p api.Plan, want []string) {
	t.Helper()
	if order, circle, e := Order(p); len(order) != 0 || !slices.Equal(circle, want) || e != api.ErrCycle {
		t.Fatalf("%v, %q, %d, not the circle %q", order, circle, e, want)
	}
}

// checkTwice fails the test if no name of a plan is there twice.
func checkTwice(t *testing.T, p api.Plan) {
	t.Helper()
	if order, circle, e := Order(p); len(order) != 0 || len(circle) != 0 || e != api.ErrTwice {
		t.Fatalf("%v, %q, %d, not twice", order, circle, e)
	}
}

// checkNames fails the test if a list of names is another one.
func checkNames(t *testing.T, what any, got, want []string) {
	t.Helper()
	if !slices.Equal(got, want) {
		t.Fatalf("%v: %q, not %q", what, got, want)
	}
}

// turned calls a function for a plan with its definitions in every order.
func turned(p api.Plan, f func(q api.Plan)) {
	var l []api.Def
	var next func(left []api.Def)
	next = func(left []api.Def) {
		if len(left) == 0 {
			q := p
			q.Defs = slices.Clone(l)
			f(q)
		}
		for i, d := range left {
			l = append(l, d)
			next(slices.Concat(left[:i], left[i+1:]))
			l = l[:len(l)-1]
		}
	}
	next(p.Defs)
}

// numbered returns n names of the same length, in ascending order.
func numbered(n int) []string {
	var l []string
	for i := range n {
		l = append(l, fmt.Sprintf("n%06d", i))
	}
	return l
}

// The examples of the chapter, and the smallest plans.
func TestExamples(t *testing.T) {
	order, circle, e := Order(planOf("b=c a= c=a"))
	if !slices.Equal(order, []int{1, 2, 0}) || len(circle) != 0 || e != api.OK {
		t.Error(order, circle, e)
	}
	checkCircle(t, planOf("a=b b=c c=b"), []string{"b", "c"})
	checkCircle(t, planOf("a=a"), []string{"a"})
	checkTwice(t, planOf("height="))

	checkOrder(t, api.Plan{}, nil)
	checkOrder(t, api.Plan{Defs: []api.Def{}}, nil)
	checkOrder(t, api.Plan{Defs: []api.Def{{}}}, []string{""})
	checkNames(t, "no definition", Reaches(api.Plan{}, ""), nil)
	checkNames(t, "no definition", Unknown(api.Plan{}), nil)
	checkNames(t, "a zero definition", Reaches(api.Plan{Defs: []api.Def{{}}}, ""), nil)
	checkNames(t, "a zero definition", Unknown(api.Plan{Defs: []api.Def{{}}}), nil)
}

// P16.1: the measures.
func TestMeasures(t *testing.T) {
	checkNames(t, "measures", Measures(), words(allMeasures))
	if !slices.IsSorted(Measures()) || len(Measures()) != 9 {
		t.Error(Measures())
	}
}

// P16.1: which kinds of nodes have a name, whatever their other fields are and however many Args they have.
func TestNamesKinds(t *testing.T) {
	ops := []int{math.MinInt, math.MaxInt}
	for op := -3; op < api.ExOps+3; op++ {
		ops = append(ops, op)
	}
	for _, op := range ops {
		for n := range 6 {
			for _, e := range []api.Expr{{}, {S: "s"}, {S: "s", Key: "k", N: 3}, {S: "s", N: math.MinInt}, {Key: "k", N: -1}} {
				e.Op = op
				var want []string
				if op == api.ExName {
					want = append(want, e.S)
				}
				for i := range n {
					arg := string(byte('t' + i))
					e.Args = append(e.Args, api.Expr{Op: api.ExOr, S: "or", Args: []api.Expr{name(arg)}})
					want = append(want, arg)
				}
				checkNames(t, e, Names(e), want)
				// In another node it has the same names.
				checkNames(t, e, Names(api.Expr{Op: api.ExNot, Args: []api.Expr{e}}), want)
				checkNames(t, e, Names(api.Expr{Op: api.ExZone, S: "q", Key: "q", Args: []api.Expr{{}, e, {}}}), want)
			}
		}
	}
	checkNames(t, "zero", Names(api.Expr{}), nil)
	checkNames(t, "empty", Names(name("")), []string{""})
}

// P16.1: names are sorted byte by byte, and are there once, in whatever order and however often they stand in the expression.
func TestNamesSorted(t *testing.T) {
	want := []string{"", "\x00", "A", "a", "a\x00", "a b", "a1", "aa", "area", "b", "floor", "floors", "if", "ü", "\xff"}
	r := newRandom(1)
	for range 500 {
		l := slices.Concat(want, want[:r.Intn(len(want))], want)
		r.Shuffle(len(l), func(i, j int) { l[i], l[j] = l[j], l[i] })
		checkNames(t, l, Names(bodyOf(l)), want)
		checkNames(t, l, Names(someBody(r, l)), want)
	}
	few := words("_ a a1 b")
	for _, a := range few {
		for _, b := range few {
			checkNames(t, "two", Names(name(a, name(b))), slices.Compact(slices.Sorted(slices.Values([]string{a, b}))))
		}
	}
}

// P16.1: names are passed on one by one, and only as long as they are asked for.
func TestNamesPassedOn(t *testing.T) {
	all := words("_ a area b")
	for n := range all {
		var l []string
		for s := range namesOf(bodyOf(words("b area _ a"))).ascending {
			l = append(l, s)
			if len(l) > n {
				break
			}
		}
		checkNames(t, n, l, all[:n+1])
	}
}

// P16.1: names at every depth, and the deepest expression that is promised.
func TestNamesDepth(t *testing.T) {
	for depth := range 40 {
		e := name("deep")
		for range depth {
			e = api.Expr{Op: api.ExIf, S: "if", Args: []api.Expr{{Op: api.ExZone, S: "zone"}, e, {}}}
		}
		checkNames(t, depth, Names(e), []string{"deep"})
	}
	e, want := name("n"), numbered(1<<16-1)
	for _, s := range want {
		e = name(s, e)
	}
	want = append([]string{"n"}, want...)
	checkNames(t, "the deepest", Names(e), want)
	p := api.Plan{Defs: []api.Def{{Name: "a", Body: e}}}
	checkNames(t, "the deepest", Reaches(p, "a"), want)
	checkNames(t, "the deepest", Unknown(p), want)
	checkOrder(t, p, []string{"a"})
}

// P16.2: names that are there twice, and definitions with the name of a measure, at every place and with circles beside them.
func TestTwice(t *testing.T) {
	for _, s := range []string{
		"a= a=", "a= a= b=", "b= a= a=", "a= b= a=", "a= b= c= d= e= a=", "a= a= a=", "a=b a=c", "a=b b= a=b", "_= _=", "a= _= _=",
		"a=a a=a", "a=a b= b=", "b= b= a=a", "b= a=a b=", "a=b b=a c= c=", "a=b b=a b=", "a=b b=a a=", "a=b b=c c=a b=a", "z=z a=z a=z",
	} {
		checkTwice(t, planOf(s))
	}
	for _, m := range words(allMeasures) {
		for _, s := range []string{"*=", "*=*", "*= a=", "a= *=", "a= *= b=", "*= *=", "a=* *=a", "a=a *=", "*=a a=a", "*=1 a= a=", "a=* *="} {
			checkTwice(t, planOf(strings.ReplaceAll(s, "*", m)))
		}
		// These are other names.
		s := m + "s1= " + m[1:] + "= x" + m + "= " + strings.ToUpper(m) + "= " + m[:len(m)-1] + "x="
		if _, _, e := Order(planOf(s)); e != api.OK {
			t.Error(s, e)
		}
		checkOrder(t, planOf("a="+m+" b=a,"+m), []string{"a", "b"})
	}
	// The rest of a plan does not matter.
	p := planOf("a= b=")
	p.Tables, p.Zones, p.Caps, p.Views = []api.Table{{Name: "a"}}, []api.Zone{{Name: "b"}}, []api.Cap{{Name: "a"}}, []api.View{{Name: "area"}}
	p.Rules = []api.Rule{{Name: "a", Test: name("a")}, {Name: "height"}}
	checkOrder(t, p, []string{"a", "b"})
}

// P16.2: any two of the greatest number of definitions.
func TestTwiceMany(t *testing.T) {
	for i := range most {
		for j := range i {
			p := planOf(strings.Join(numbered(most), "= ") + "=")
			checkOrder(t, p, numbered(most))
			p.Defs[i].Name = p.Defs[j].Name
			checkTwice(t, p)
		}
		p := planOf(strings.Join(numbered(most), "= ") + "=")
		p.Defs[i].Name = Measures()[i%9]
		checkTwice(t, p)
	}
}

// P16.2, P16.5: the smallest circle, with the definitions in every order.
func TestCircles(t *testing.T) {
	for _, c := range []struct{ plan, want string }{
		// One, two, three, and all definitions.
		{"a=a", "a"},
		{"_=_", "_"},
		{"a= b=b c=", "b"},
		{"b=a a=b", "a b"},
		{"_=a a=_", "_ a"},
		{"a=b b=c c=a", "a b c"},
		{"a=c b=a c=b", "a c b"},
		{"a=e b=d c=b d=a e=c", "a e c b d"},
		// Ways that lead into a circle, and out of it.
		{"a=b b=c c=d d=c", "c d"},
		{"a=b b=c c=b,d d=e e=", "b c"},
		{"a=b,c b=d c=d d=e,f e= f=d", "d f"},
		{"z=z a=z b=z,a", "z"},
		// Of the same length: other names at the first, at a middle, at the last place.
		{"a=a b=b c=c", "a"},
		{"a= c=c b=b", "b"},
		{"a=x b=x x=a,b", "a x"},
		{"a=x b=x x=y y=a,b", "a x y"},
		{"a=c,b b=z c=z z=a", "a b z"},
		{"a=b b=d,c c=a d=a", "a b c"},
		{"a=b b=c c=e,d d=a e=a", "a b c d"},
		{"a=d,e b= d=b,c c=a e=c", "a d c"},
		{"a=z,b b=c,y c=a y=a z=b", "a b c"},
		{"a=a1,aa a1=a aa=a", "a a1"},
		{"B=x a=x x=a,B", "B x"},
		// Apart from each other.
		{"a=b b=a c=d d=c", "a b"},
		{"a=d d=a b=c c=b", "a d"},
		{"b=c c=b a=", "b c"},
		// A longer one has lesser names.
		{"a=b b=c c=a y=z z=y", "y z"},
		{"a=b b=a z=z", "z"},
		{"a=b b=c c=d d=a,c", "c d"},
		{"a=b b=c c=d d=a,b", "b c d"},
		{"a=b,c b=d c=e d=b e=a", "b d"},
		{"a=b b=c c=b,a", "b c"},
		{"a=b b=c,a c=c", "c"},
		{"a=b b=c c=d d=e e=a,d", "d e"},
		// They share names.
		{"a=b,c b=a c=a", "a b"},
		{"a=c b=c c=a,b", "a c"},
		{"a=b,c b=c,a c=a,b", "a b"},
		{"a=b b=c,d c=a d=a,c", "a b c"},
		{"a=b,d b=c c=a,d d=b", "a b c"},
		{"a=b,c,d b=c c=d d=a", "a d"},
		{"a=b c=b,a b=c,d d=b", "b c"},
		// A way that begins with the least name, but goes around.
		{"a=b,c b=d c=a d=a", "a c"},
		{"a=b,c b=b,c c=d d=a", "b"},
		{"a=b,d b=c c=b1 b1=a d=e e=a", "a d e"},
		{"a=d d=b,c b=a c=a", "a d b"},
		// Names that are no definitions do not belong to a circle.
		{"a=x,height b=a,y c=b,c", "c"},
		{"a=height,b b=area,a,x", "a b"},
		{"a=aa aa=a a1=a,x", "a aa"},
	} {
		turned(planOf(c.plan), func(p api.Plan) { checkCircle(t, p, words(c.want)) })
	}
}

// P16.2, P16.6: the order, with the definitions in every order.
func TestOrders(t *testing.T) {
	for _, c := range []struct{ plan, want string }{
		{"a=", "a"},
		{"a= b= c=", "a b c"},
		{"a=b b=c c=", "c b a"},
		{"a= b=a c=b", "a b c"},
		{"a=c b= c=", "b c a"},
		{"a=d b= c= d=", "b c d a"},
		{"a=b b= c= d=", "b a c d"},
		// One that becomes possible later has a lesser name than those that wait.
		{"a=c b=a c= d= e=", "c a b d e"},
		{"a=b,d b= c= d= e=", "b c d a e"},
		{"a=e b=a c=b d= e=", "d e a b c"},
		{"c=x b=c a=b x= y= z=", "x c b a y z"},
		// One that waits has a lesser name than those that become possible.
		{"a= d=a b= e=d c=", "a b c d e"},
		{"x=a a= y=a b=x,y", "a x y b"},
		// One uses several, several use one, one is used in several ways.
		{"a=b,c,d b=d c=d d=", "d b c a"},
		{"a=d b=d c=d d=", "d a b c"},
		{"a=b,b,b b=", "b a"},
		{"a=b b=d c=d,b d=e e=", "e d b a c"},
		{"d=a,b,c c=a,b b=a a=", "a b c d"},
		// Measures, and names that are no definitions, need not come first.
		{"a=height,x b=area", "a b"},
		{"a=x,b b=floor,y", "b a"},
		{"a=_ b=a", "a b"},
		{"a=_ _=b b=", "b _ a"},
		// Names that begin with one another, and that are compared byte by byte.
		{"a=aa aa=a1 a1=", "a1 aa a"},
		{"_= a= a1= aa= ab= b=", "_ a a1 aa ab b"},
		{"B= a= b= A=", "A B a b"},
		{"a2= a10= a9=", "a10 a2 a9"},
		{"floorsx= floor1= heights= areas=", "areas floor1 floorsx heights"},
	} {
		turned(planOf(c.plan), func(p api.Plan) { checkOrder(t, p, words(c.want)) })
	}
}

// P16.2: indices are those of the list, not of the names.
func TestIndices(t *testing.T) {
	for _, c := range []struct {
		plan string
		want []int
	}{
		{"", nil}, {"a=", []int{0}}, {"c= b= a=", []int{2, 1, 0}}, {"b= c= a=", []int{2, 0, 1}}, {"c=a a=b b=", []int{2, 1, 0}}, {"b=a c=b a=", []int{2, 0, 1}},
	} {
		if order, circle, e := Order(planOf(c.plan)); !slices.Equal(order, c.want) || len(circle) != 0 || e != api.OK {
			t.Error(c.plan, order, circle, e)
		}
	}
}

// P16.2: the greatest number of definitions, and more.
func TestMany(t *testing.T) {
	for _, n := range []int{2, most - 1, most, most + 1, 1000} {
		l := numbered(n)
		up, down := slices.Clone(l), slices.Clone(l)
		for i := range l {
			if i > 0 {
				down[i] += "=" + l[i-1]
			} else {
				down[i] += "="
			}
			up[i] += "=" + l[(i+1)%n]
		}
		checkOrder(t, planOf(strings.Join(down, " ")), l)
		checkCircle(t, planOf(strings.Join(up, " ")), l)
		// The last one uses the one before it, too.
		checkCircle(t, planOf(strings.Join(up, " ")+","+l[n-2]), l[n-2:])
		up[n-1] = l[n-1] + "="
		slices.Reverse(l)
		checkOrder(t, planOf(strings.Join(up, " ")), l)
		up = append(up[:n-1], l[0]+"="+l[0])
		checkCircle(t, planOf(strings.Join(up, " ")), l[:1])
	}
}

// P16.2, P16.3: the greatest number of definitions, each of which uses all others, or all with lesser or greater names.
func TestAll(t *testing.T) {
	l := numbered(most)
	r := newRandom(2)
	build := func(uses func(i int) []string) api.Plan {
		var p api.Plan
		for _, i := range r.Perm(most) {
			p.Defs = append(p.Defs, api.Def{Name: l[i], Body: someBody(r, uses(i))})
		}
		return p
	}
	back := slices.Clone(l)
	slices.Reverse(back)
	for range 20 {
		checkOrder(t, build(func(i int) []string { return l[:i] }), l)
		checkOrder(t, build(func(i int) []string { return l[i+1:] }), back)
		all := build(func(i int) []string { return slices.Concat(l[:i], l[i+1:]) })
		checkCircle(t, all, l[:2])
		checkNames(t, "all", Reaches(all, l[most/2]), l)
		checkCircle(t, build(func(i int) []string { return l }), l[:1])
		less := build(func(i int) []string { return append(l[:i:i], "area", "zoo") })
		checkNames(t, "less", Reaches(less, l[most-1]), slices.Concat([]string{"area"}, l[:most-1], []string{"zoo"}))
		checkNames(t, "less", Unknown(less), []string{"zoo"})
		// One that uses itself among those that use all before them.
		k := r.Intn(most)
		checkCircle(t, build(func(i int) []string {
			if i == k {
				return l[:i+1]
			}
			return l[:i]
		}), l[k:k+1])
	}
}

// P16.3: what a name reaches.
func TestReaches(t *testing.T) {
	for _, c := range []struct{ plan, name, want string }{
		// No definitions, and measures.
		{"", "a", ""}, {"", "height", ""}, {"", "_", ""}, {"a=b", "b", ""}, {"a=b", "x", ""}, {"a=area", "area", ""}, {"a=b", "_", ""}, {"a=b", "a1", ""}, {"a1=b", "a", ""},
		// One and several steps.
		{"a=", "a", ""}, {"a=b", "a", "b"}, {"a=b,area,_", "a", "_ area b"}, {"a=b b=c c=d", "a", "b c d"}, {"a=b b=c c=d", "b", "c d"}, {"a=b b=c c=d", "c", "d"},
		{"c=d b=c a=b", "a", "b c d"}, {"a=z,b b=y y=x", "a", "b x y z"}, {"a=b,c b=d c=d d=height", "a", "b c d height"}, {"_=a a=b", "_", "a b"}, {"a=_ _=x", "a", "_ x"},
		{"a=b b= c=d", "a", "b"},
		// Circles: a name in one is reached from itself, and only then.
		{"a=a", "a", "a"}, {"a=b b=a", "a", "a b"}, {"a=b b=a", "b", "a b"}, {"a=b b=c c=a,x", "b", "a b c x"}, {"a=b b=c c=b", "a", "b c"}, {"a=b b=c c=b", "c", "b c"},
		{"a=b b=b,c c=", "a", "b c"}, {"a=b b=b,c c=", "c", ""}, {"a=b b=c c=d d=b", "a", "b c d"}, {"a=c b=c c=d d=c", "b", "c d"},
		// Several definitions with one name.
		{"a=b a=c", "a", "b c"}, {"a=b x= a=c,d", "a", "b c d"}, {"a=b b=c x=y b=d", "a", "b c d"}, {"a= a=a", "a", "a"}, {"a=b a=b", "a", "b"}, {"a= a=b a=", "a", "b"},
		// Definitions with the names of measures are definitions, too.
		{"height=a", "height", "a"}, {"a=height height=b", "a", "b height"}, {"height=height", "height", "height"}, {"area=area a=area,b", "a", "area b"},
	} {
		turned(planOf(c.plan), func(p api.Plan) {
			checkNames(t, c.plan+": "+c.name, Reaches(p, word(c.name)), words(c.want))
		})
	}
	// Rules, and all else of a plan, do not matter.
	p := planOf("a=b")
	p.Rules, p.Tables = []api.Rule{{Name: "a", Test: name("x")}, {Name: "b", Test: name("y")}}, []api.Table{{Name: "b", Rows: []api.Entry{{Name: "z"}}}}
	checkNames(t, "rules", Reaches(p, "a"), []string{"b"})
	checkNames(t, "rules", Reaches(p, "b"), nil)
}

// P16.3: names that nothing defines, in definitions and in rules of every kind.
func TestUnknown(t *testing.T) {
	for _, c := range []struct{ plan, rules, want string }{
		{"", "", ""}, {"a=", "", ""}, {"a=a", "", ""}, {"a=b", "", "b"}, {"a=b b=a", "", ""}, {"a=_", "", "_"}, {"_=_", "", ""},
		{"a=" + strings.ReplaceAll(allMeasures, " ", ","), "", ""}, {"a=areas,are,floor,floors,floorss,Area", "", "Area are areas floorss"},
		{"a=z,y b=x,y,area,a", "", "x y z"}, {"b=a1,aa,a a=", "", "a1 aa"}, {"a=x a=y", "", "x y"}, {"height=x a=height", "", "x"},
		{"", "a", "a"}, {"", "b a b", "a b"}, {"a=", "a", ""}, {"a=", "b a", "b"}, {"a=x", "b x", "b x"}, {"", "height _", "_"}, {"a=b", allMeasures, "b"},
		{"a=b c=d e=", "a b c d e f area", "b d f"},
	} {
		turned(planOf(c.plan), func(p api.Plan) {
			for _, s := range words(c.rules) {
				p.Rules = append(p.Rules, api.Rule{Name: "rule", Test: name(s)})
			}
			checkNames(t, c.plan+": "+c.rules, Unknown(p), words(c.want))
			slices.Reverse(p.Rules)
			checkNames(t, c.plan+": "+c.rules, Unknown(p), words(c.want))
		})
	}
	for _, kind := range []int{math.MinInt, -1, api.RkTest, api.RkPlane, api.RkUses, api.RkApart, api.RkKinds, math.MaxInt} {
		p := planOf("a=b")
		p.Rules = []api.Rule{
			{Kind: kind, Name: "name", Zones: []string{"in"}, Except: []string{"not"}, Test: bodyOf(words("a x area"))},
			{Kind: kind, From: 9, Until: 3, Vary: true, Test: api.Expr{Op: api.ExZone, S: "core", Key: "key"}},
		}
		p.Tables, p.Zones = []api.Table{{Name: "table", Rows: []api.Entry{{Name: "row"}}}}, []api.Zone{{Name: "zone"}}
		p.Caps, p.Views = []api.Cap{{Name: "cap"}}, []api.View{{Name: "view"}}
		checkNames(t, kind, Unknown(p), []string{"b", "x"})
	}
}
