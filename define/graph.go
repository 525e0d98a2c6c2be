package define

import (
	"cmp"
	"slices"

	"greenbelt/api"
)

// graph says which definitions use which. A node is the place of a definition in the order of their names, so that lists
// of nodes compare as lists of names do; no two definitions have the same name.
type graph struct {
	defs  []api.Def
	index []int   // of each node in defs
	uses  [][]int // the nodes that each node uses, in ascending order
	users [][]int // the nodes that use each node, in ascending order
}

func graphOf(l []api.Def) graph {
	g := graph{defs: l, index: make([]int, len(l)), uses: make([][]int, len(l)), users: make([][]int, len(l))}
	for i := range g.index {
		g.index[i] = i
	}
	slices.SortFunc(g.index, func(i, j int) int { return cmp.Compare(l[i].Name, l[j].Name) })
	nodes := map[string]int{}
	for node, i := range g.index {
		nodes[l[i].Name] = node
	}
	for node, i := range g.index {
		for name := range namesOf(l[i].Body).ascending {
			if used, is := nodes[name]; is {
				g.uses[node] = append(g.uses[node], used)
				g.users[used] = append(g.users[used], node)
			}
		}
	}
	return g
}

// places returns the indices of nodes in the list of the definitions.
func (g graph) places(nodes []int) []int {
	var l []int
	for _, node := range nodes {
		l = append(l, g.index[node])
	}
	return l
}

// names returns the names of nodes.
func (g graph) names(nodes []int) []string {
	var l []string
	for _, i := range g.places(nodes) {
		l = append(l, g.defs[i].Name)
	}
	return l
}

// order returns the nodes, each behind those that it uses, and each time the least one that can come next. Nodes that use
// themselves in the end, and those that use such nodes, never can.
func (g graph) order() []int {
	var l, ready []int
	missing := make([]int, len(g.uses))
	for node, used := range g.uses {
		missing[node] = len(used)
		if len(used) == 0 {
			ready = append(ready, node)
		}
	}
	for len(ready) > 0 {
		next := ready[0]
		ready = ready[1:]
		l = append(l, next)
		for _, user := range g.users[next] {
			missing[user]--
			if missing[user] == 0 {
				at, _ := slices.BinarySearch(ready, user)
				ready = slices.Insert(ready, at, user)
			}
		}
	}
	return l
}

// circle returns the smallest circle, if there is one.
func (g graph) circle() []int {
	var least []int
	for node := range g.uses {
		l := g.from(node)
		if len(l) > 0 && (len(least) == 0 || len(l) < len(least)) {
			least = l
		}
	}
	return least
}

// from returns the smallest circle whose least node is the first one, if there is one.
func (g graph) from(first int) []int {
	steps := g.steps(first)
	if steps[first] == 0 {
		return nil
	}
	l := []int{first}
	for left := steps[first] - 1; left > 0; left-- {
		used := g.uses[l[len(l)-1]]
		nearer := slices.IndexFunc(used, func(node int) bool { return steps[node] == left })
		l = append(l, used[nearer])
	}
	return l
}

// steps returns for each node how many steps it takes at least, from use to use, to a last one that is less than all others
// on the way; 0, if there is no way. Nodes that are no nearer to it than it is to itself, around a circle, may be left out.
func (g graph) steps(last int) []int {
	steps := make([]int, len(g.uses))
	for next := []int{last}; len(next) > 0 && steps[last] == 0; next = next[1:] {
		far := steps[next[0]] + 1
		for _, user := range g.users[next[0]] {
			if user >= last && steps[user] == 0 {
				steps[user] = far
				next = append(next, user)
			}
		}
	}
	return steps
}
