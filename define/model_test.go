package define

import (
	"fmt"
	"math/rand"
	"reflect"
	"slices"
	"sort"
	"strings"
	"testing"

	"greenbelt/api"
)

// These tests compare the package with the definitions of the chapter, which are followed by trying everything: all lists of
// names that could be a circle, all orders, all chains of dependence. Then they look at memory.

func newRandom(seed int64) *rand.Rand { return rand.New(rand.NewSource(seed)) }

// someBody returns a random expression with names, some of them several times, and others in fields that do not count.
func someBody(r *rand.Rand, l []string) api.Expr {
	var parts []api.Expr
	for _, i := range r.Perm(len(l)) {
		for range 1 + r.Intn(5)/4 {
			parts = append(parts, api.Expr{Op: api.ExName, N: r.Intn(3), S: l[i], Key: someName(r)})
		}
	}
	for range r.Intn(3) {
		parts = append(parts, api.Expr{Op: someOther(r), N: r.Intn(3), S: someName(r), Key: someName(r)})
	}
	if len(parts) == 0 {
		return api.Expr{S: someName(r)}
	}
	for len(parts) > 1 {
		// Some of the parts become the operands of another one, or of a new node.
		n := 1 + r.Intn(min(3, len(parts)-1))
		e := parts[n]
		if rest := parts[n+1:]; r.Intn(2) == 0 {
			e = api.Expr{Op: someOther(r), S: someName(r), Key: someName(r), Args: slices.Clone(parts[:n+1])}
			parts = append(rest[:len(rest):len(rest)], e)
		} else {
			e.Args = slices.Concat(e.Args, parts[:n])
			parts = append(rest[:len(rest):len(rest)], e)
		}
	}
	return parts[0]
}

// someOther returns a kind of nodes without a name.
func someOther(r *rand.Rand) int {
	op := r.Intn(api.ExOps + 1)
	if op == api.ExName {
		return -1
	}
	return op
}

// someNames are names for small plans: some are measures, and some begin with another one.
var someNames = []string{"", "a", "a1", "aa", "area", "b", "c", "floor", "floors", "x"}

func someName(r *rand.Rand) string { return someNames[r.Intn(len(someNames))] }

// namesIn follows the definition of the names of an expression.
func namesIn(list ...api.Expr) []string {
	found := []string{}
	for len(list) > 0 {
		e := list[len(list)-1]
		list = append(list[:len(list)-1:len(list)-1], e.Args...)
		if e.Op == api.ExName {
			found = append(found, e.S)
		}
	}
	sort.Strings(found)
	return slices.Compact(found)
}

// relation says of two names whether the first one uses the second one, or depends on it.
type relation map[[2]string]bool

// usesIn returns which names the definitions of a plan use.
func usesIn(p api.Plan) relation {
	uses := relation{}
	for _, d := range p.Defs {
		for _, s := range namesIn(d.Body) {
			uses[[2]string{d.Name, s}] = true
		}
	}
	return uses
}

// dependsIn returns which names the definitions of a plan depend on.
func dependsIn(p api.Plan) relation {
	depends := usesIn(p)
	var all []string
	for pair := range depends {
		all = append(all, pair[0], pair[1])
	}
	sort.Strings(all)
	all = slices.Compact(all)
	for _, by := range all {
		for _, from := range all {
			for _, to := range all {
				if depends[[2]string{from, by}] && depends[[2]string{by, to}] {
					depends[[2]string{from, to}] = true
				}
			}
		}
	}
	return depends
}

// behind returns the names that stand behind a name in a relation.
func (r relation) behind(name string) []string {
	var l []string
	for pair := range r {
		if pair[0] == name {
			l = append(l, pair[1])
		}
	}
	sort.Strings(l)
	return l
}

// isCircle follows the definition of a circle, for a list of different names of definitions.
func isCircle(uses relation, l []string) bool {
	for i, s := range l {
		if !uses[[2]string{s, l[(i+1)%len(l)]}] {
			return false
		}
	}
	return len(l) > 0
}

// lists calls a function for all lists of different names of at most n elements, the shorter ones first, and each time the
// lesser one first.
func lists(names []string, n int, f func(l []string) bool) {
	names = slices.Sorted(slices.Values(names))
	found := [][]string{{}}
	for range n {
		var longer [][]string
		for _, l := range found {
			for _, s := range names {
				if slices.Contains(l, s) {
					continue
				}
				next := append(slices.Clone(l), s)
				longer = append(longer, next)
				if !f(next) {
					return
				}
			}
		}
		found = longer
	}
}

// definedIn returns the names of the definitions of a plan.
func definedIn(p api.Plan) []string {
	var l []string
	for _, d := range p.Defs {
		l = append(l, d.Name)
	}
	return l
}

// smallestIn returns the smallest circle of a plan: the first one of all lists.
func smallestIn(p api.Plan) []string {
	uses := usesIn(p)
	var smallest []string
	lists(definedIn(p), len(p.Defs), func(l []string) bool {
		if isCircle(uses, l) {
			smallest = l
		}
		return smallest == nil
	})
	return smallest
}

// inOrder reports whether no name in a list uses itself or one behind it.
func inOrder(uses relation, l []string) bool {
	for i, s := range l {
		for _, used := range l[i:] {
			if uses[[2]string{s, used}] {
				return false
			}
		}
	}
	return true
}

// leastIn returns the least one of all lists of the names of all definitions in which each stands behind those that it uses.
func leastIn(p api.Plan) []string {
	uses, defined := usesIn(p), definedIn(p)
	var least []string
	lists(defined, len(p.Defs), func(l []string) bool {
		if len(l) == len(p.Defs) && inOrder(uses, l) {
			least = l
		}
		return least == nil
	})
	return least
}

// greedyIn returns the order of a plan as P16.2 says it: each time, the least one of those that can come next.
func greedyIn(p api.Plan) []int {
	uses := usesIn(p)
	var order []int
	canCome := func(i int) bool {
		return !slices.Contains(order, i) && !slices.ContainsFunc(p.Defs, func(d api.Def) bool {
			return uses[[2]string{p.Defs[i].Name, d.Name}] && !slices.Contains(namesAt(p, order), d.Name)
		})
	}
	for range p.Defs {
		least := -1
		for i := range p.Defs {
			if canCome(i) && (least < 0 || p.Defs[i].Name < p.Defs[least].Name) {
				least = i
			}
		}
		order = append(order, least)
	}
	return order
}

// isTwice reports whether a name of the definitions of a plan is there twice, or is that of a measure.
func isTwice(p api.Plan) bool {
	l := append(definedIn(p), words(allMeasures)...)
	for i, s := range l[:len(p.Defs)] {
		if slices.Contains(l[i+1:], s) {
			return true
		}
	}
	return false
}

// checkModel compares Order with the definitions, and returns the error.
func checkModel(t *testing.T, p api.Plan) api.Errno {
	t.Helper()
	if isTwice(p) {
		checkTwice(t, p)
		return api.ErrTwice
	}
	depends := dependsIn(p)
	onItself := slices.ContainsFunc(p.Defs, func(d api.Def) bool { return depends[[2]string{d.Name, d.Name}] })
	smallest := smallestIn(p)
	if onItself != (smallest != nil) {
		t.Fatal("the model contradicts itself", p)
	}
	if onItself {
		checkCircle(t, p, smallest)
		return api.ErrCycle
	}
	least, greedy := leastIn(p), greedyIn(p)
	if !slices.Equal(namesAt(p, greedy), least) {
		t.Fatal("the model contradicts itself", p)
	}
	if order, circle, e := Order(p); !slices.Equal(order, greedy) || len(circle) != 0 || e != api.OK {
		t.Fatalf("%v, %q, %d, not the order %v", order, circle, e, greedy)
	}
	return api.OK
}

// checkOthers compares the functions other than Order with the definitions.
func checkOthers(t *testing.T, p api.Plan) {
	t.Helper()
	depends := dependsIn(p)
	for _, s := range append(definedIn(p), someNames...) {
		checkNames(t, p, Reaches(p, s), depends.behind(s))
	}
	var all []api.Expr
	for _, d := range p.Defs {
		checkNames(t, d, Names(d.Body), namesIn(d.Body))
		all = append(all, d.Body)
	}
	for _, r := range p.Rules {
		all = append(all, r.Test)
	}
	unknown := namesIn(all...)
	unknown = slices.DeleteFunc(unknown, func(s string) bool {
		return slices.Contains(words(allMeasures), s) || slices.Contains(definedIn(p), s)
	})
	checkNames(t, p, Unknown(p), unknown)
}

// graphPlan returns a plan of the names in a list, in which the bits of a number say which definitions use which.
func graphPlan(l []string, bits int) api.Plan {
	var p api.Plan
	for i, s := range l {
		var uses []string
		for j, used := range l {
			if bits>>(i*len(l)+j)&1 == 1 {
				uses = append(uses, used)
			}
		}
		p.Defs = append(p.Defs, api.Def{Name: s, Body: bodyOf(uses)})
	}
	return p
}

// P16.2, P16.3, P16.5, P16.6: all plans with up to three definitions, in every order.
func TestAllSmall(t *testing.T) {
	for n := range 4 {
		for bits := range 1 << (n * n) {
			turned(graphPlan(someNames[1:1+n], bits), func(p api.Plan) {
				checkModel(t, p)
				checkOthers(t, p)
			})
		}
	}
}

// P16.2, P16.5, P16.6: all plans with four definitions, each in one order.
func TestAllFour(t *testing.T) {
	r := newRandom(3)
	count := map[api.Errno]int{}
	for bits := range 1 << 16 {
		p := graphPlan([]string{"a", "a1", "aa", "b"}, bits)
		r.Shuffle(4, func(i, j int) { p.Defs[i], p.Defs[j] = p.Defs[j], p.Defs[i] })
		count[checkModel(t, p)]++
	}
	// There are 543 graphs of four nodes without a circle.
	if count[api.OK] != 543 || count[api.ErrCycle] != 1<<16-543 {
		t.Error(count)
	}
}

// somePlan returns a random plan with different names, which use one another with a probability of one in so many, and other
// names as well.
func somePlan(r *rand.Rand, l []string, rare int) api.Plan {
	var p api.Plan
	for _, i := range r.Perm(len(l)) {
		var uses []string
		for _, s := range l {
			if r.Intn(rare) == 0 {
				uses = append(uses, s)
			}
		}
		for range r.Intn(3) {
			uses = append(uses, fmt.Sprint("other", r.Intn(4)), Measures()[r.Intn(9)])
		}
		p.Defs = append(p.Defs, api.Def{Name: l[i], Body: someBody(r, uses)})
	}
	return p
}

// noMeasures returns the names for small plans without measures, in a random order.
func noMeasures(r *rand.Rand) []string {
	l := slices.DeleteFunc(slices.Clone(someNames), func(s string) bool { return slices.Contains(words(allMeasures), s) })
	r.Shuffle(len(l), func(i, j int) { l[i], l[j] = l[j], l[i] })
	return l
}

// P16.2, P16.3, P16.5, P16.6: random plans with up to six definitions.
func TestModelRandom(t *testing.T) {
	r := newRandom(4)
	count := map[api.Errno]int{}
	circles := map[int]int{}
	for range 6000 {
		p := somePlan(r, noMeasures(r)[:1+r.Intn(6)], 2+r.Intn(8))
		e := checkModel(t, p)
		checkOthers(t, p)
		count[e]++
		if e == api.ErrCycle {
			_, circle, _ := Order(p)
			circles[len(circle)]++
		}
	}
	if count[api.OK] < 1000 || circles[1] < 500 || circles[2] < 200 || circles[3] < 30 || circles[4] < 1 {
		t.Error(count, circles)
	}
}

// P16.2, P16.5: random plans of six definitions that do not use themselves and hardly one another both ways, so that circles
// are long, and have several of the same length.
func TestLongCircles(t *testing.T) {
	r := newRandom(5)
	circles := map[int]int{}
	for range 3000 {
		l := noMeasures(r)[:6]
		p := graphPlan(l, 0)
		for i := range p.Defs {
			// Around, and a step or two further or back now and then.
			uses := []string{l[(i+1)%6]}
			if r.Intn(3) == 0 {
				uses = append(uses, l[(i+2+r.Intn(3))%6])
			}
			if r.Intn(8) == 0 {
				uses = uses[:len(uses)-1]
			}
			p.Defs[i].Body = someBody(r, uses)
		}
		r.Shuffle(6, func(i, j int) { p.Defs[i], p.Defs[j] = p.Defs[j], p.Defs[i] })
		if checkModel(t, p) == api.ErrCycle {
			_, circle, _ := Order(p)
			circles[len(circle)]++
		}
	}
	for n := 2; n <= 6; n++ {
		if circles[n] < 50 {
			t.Error(circles)
		}
	}
}

// layered returns a plan of layers of a width: each definition uses some of the next layer, and those of the last one some of
// the first one, so that every circle has as many names of each layer.
func layered(r *rand.Rand, layers, width int) api.Plan {
	l := numbered(layers * width)
	r.Shuffle(len(l), func(i, j int) { l[i], l[j] = l[j], l[i] })
	var p api.Plan
	for i, s := range l {
		var uses []string
		for range 1 + r.Intn(2) {
			uses = append(uses, l[(i/width+1)%layers*width+r.Intn(width)])
		}
		p.Defs = append(p.Defs, api.Def{Name: s, Body: someBody(r, uses)})
	}
	r.Shuffle(len(p.Defs), func(i, j int) { p.Defs[i], p.Defs[j] = p.Defs[j], p.Defs[i] })
	return p
}

// rounds returns the least list of n names of which each one uses the next one, and the last one the first one.
func rounds(p api.Plan, n int) []string {
	uses := map[string][]string{}
	for _, d := range p.Defs {
		uses[d.Name] = namesIn(d.Body)
	}
	var least []string
	var on func(l []string)
	on = func(l []string) {
		for _, s := range uses[l[len(l)-1]] {
			if len(l) < n {
				on(append(slices.Clone(l), s))
			} else if s == l[0] && (least == nil || slices.Compare(l, least) < 0) {
				least = l
			}
		}
	}
	for _, d := range p.Defs {
		on([]string{d.Name})
	}
	return least
}

// P16.2, P16.5: plans with up to the greatest number of definitions and many circles of the same length.
func TestLayers(t *testing.T) {
	r := newRandom(6)
	found := map[int]int{}
	for range 500 {
		layers := 1 + r.Intn(6)
		p := layered(r, layers, 1+r.Intn(most/layers))
		// The first length for which there is a way around is that of the smallest circle: no name can be there twice.
		n, least := 0, []string(nil)
		for least == nil {
			n += layers
			least = rounds(p, n)
		}
		checkCircle(t, p, least)
		found[n]++
	}
	for n := 1; n <= 6; n++ {
		if found[n] < 20 {
			t.Error(found)
		}
	}
}

// P16.2, P16.6: plans with up to the greatest number of definitions and no circle.
func TestOrderRandom(t *testing.T) {
	r := newRandom(7)
	for range 300 {
		l := numbered(1 + r.Intn(most))
		r.Shuffle(len(l), func(i, j int) { l[i], l[j] = l[j], l[i] })
		var p api.Plan
		for i, s := range l {
			uses := []string{"area", "other"}
			for range min(i, r.Intn(4)) {
				uses = append(uses, l[r.Intn(i)])
			}
			p.Defs = append(p.Defs, api.Def{Name: s, Body: someBody(r, uses)})
		}
		r.Shuffle(len(p.Defs), func(i, j int) { p.Defs[i], p.Defs[j] = p.Defs[j], p.Defs[i] })
		if order, circle, e := Order(p); !slices.Equal(order, greedyIn(p)) || len(circle) != 0 || e != api.OK {
			t.Fatalf("%v, %q, %d, not %v", order, circle, e, greedyIn(p))
		}
	}
}

// P16.2, P16.3: random plans in which names are there several times, and are those of measures.
func TestModelNames(t *testing.T) {
	r := newRandom(8)
	count := map[api.Errno]int{}
	for range 4000 {
		var p api.Plan
		for range r.Intn(6) {
			var uses []string
			for range r.Intn(3) {
				uses = append(uses, someName(r))
			}
			p.Defs = append(p.Defs, api.Def{Name: someName(r), Body: someBody(r, uses)})
		}
		for range r.Intn(4) {
			p.Rules = append(p.Rules, api.Rule{Kind: r.Intn(6) - 1, Test: someBody(r, []string{someName(r), fmt.Sprint("rule", r.Intn(3))})})
		}
		count[checkModel(t, p)]++
		checkOthers(t, p)
	}
	if count[api.OK] < 500 || count[api.ErrCycle] < 100 || count[api.ErrTwice] < 1000 {
		t.Error(count)
	}
}

// withMore returns a copy of an expression whose lists have more elements behind their ends.
func withMore(e api.Expr) api.Expr {
	var args []api.Expr
	for _, arg := range e.Args {
		args = append(args, withMore(arg))
	}
	args = append(args, name("more"), name("a", name("b")))
	e.Args = args[:len(e.Args)]
	return e
}

// planWithMore returns a copy of a plan whose lists have more elements behind their ends.
func planWithMore(p api.Plan) api.Plan {
	p.Defs, p.Rules = slices.Clone(p.Defs), slices.Clone(p.Rules)
	for i := range p.Defs {
		p.Defs[i].Body = withMore(p.Defs[i].Body)
	}
	for i := range p.Rules {
		p.Rules[i].Test = withMore(p.Rules[i].Test)
	}
	p.Defs = append(p.Defs, api.Def{Name: "a", Body: name("a")}, api.Def{Name: "area", Body: name("more")})[:len(p.Defs)]
	p.Rules = append(p.Rules, api.Rule{Test: name("more")}, api.Rule{Test: name("most")})[:len(p.Rules)]
	return p
}

// whole returns a copy of a plan with all that is behind the ends of its lists.
func whole(p api.Plan) api.Plan {
	var on func(e api.Expr) api.Expr
	on = func(e api.Expr) api.Expr {
		var args []api.Expr
		for _, arg := range e.Args[:cap(e.Args)] {
			args = append(args, on(arg))
		}
		e.Args = args
		return e
	}
	p.Defs, p.Rules = slices.Clone(p.Defs[:cap(p.Defs)]), slices.Clone(p.Rules[:cap(p.Rules)])
	for i := range p.Defs {
		p.Defs[i].Body = on(p.Defs[i].Body)
	}
	for i := range p.Rules {
		p.Rules[i].Test = on(p.Rules[i].Test)
	}
	return p
}

// results calls all functions with a plan, and returns what they return.
func results(p api.Plan) (texts [][]string, order []int, e api.Errno) {
	order, circle, e := Order(p)
	texts = [][]string{circle, Unknown(p), Measures()}
	for _, s := range someNames {
		texts = append(texts, Reaches(p, s))
	}
	for _, d := range p.Defs {
		texts = append(texts, Names(d.Body))
	}
	for _, r := range p.Rules {
		texts = append(texts, Names(r.Test))
	}
	return texts, order, e
}

// samePlans returns plans with an order, with a circle, and with a name that is there twice.
func samePlans() []api.Plan {
	var l []api.Plan
	for _, s := range []string{"b=c,x a= c=a,area", "c=b b=c,x a=b", "a=b,x a=c c=c", "x= area=x b=area", "", "b="} {
		p := planOf(s)
		for _, d := range p.Defs {
			p.Rules = append(p.Rules, api.Rule{Name: d.Name, Kind: len(p.Rules), Test: bodyOf([]string{d.Name, "y", "c"})})
		}
		l = append(l, p)
	}
	return l
}

// P16.4: arguments are neither modified nor read behind the ends of their lists, and results do not depend on earlier calls.
func TestArguments(t *testing.T) {
	plans := samePlans()
	for _, p := range plans {
		want, wantOrder, wantE := results(p)
		more := planWithMore(p)
		before := whole(more)
		for range 3 {
			texts, order, e := results(more)
			if !slices.EqualFunc(texts, want, slices.Equal) || !slices.Equal(order, wantOrder) || e != wantE {
				t.Error(texts, order, e)
			}
			if !reflect.DeepEqual(whole(more), before) {
				t.Error("changed", more)
			}
			for _, other := range plans {
				results(other)
			}
		}
	}
}

// P16.4: results share no memory, neither with each other nor with what is kept, not even behind their ends.
func TestFresh(t *testing.T) {
	for _, p := range samePlans() {
		want, wantOrder, wantE := results(p)
		texts, order, e := results(p)
		again, orderAgain, _ := results(p)
		for i, l := range texts {
			for j := range l[:cap(l)] {
				l[:cap(l)][j] = "spoiled"
			}
			for k, other := range texts[i+1:] {
				if len(other) > 0 && slices.Contains(other, "spoiled") {
					t.Error("shared", i, i+1+k)
				}
			}
		}
		for i := range order[:cap(order)] {
			order[:cap(order)][i] = -1
		}
		if !slices.EqualFunc(again, want, slices.Equal) || !slices.Equal(orderAgain, wantOrder) {
			t.Error("shared with other results")
		}
		if texts, order, now := results(p); !slices.EqualFunc(texts, want, slices.Equal) || !slices.Equal(order, wantOrder) || e != wantE || now != wantE {
			t.Error("shared with what is kept")
		}
		if strings.Contains(fmt.Sprint(p), "spoiled") {
			t.Error("shared with an argument")
		}
	}
}
