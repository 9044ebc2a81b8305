package trees_test

import (
	"math"
	"math/rand"
	"slices"
	"testing"

	"stopwatch/api"
	"stopwatch/syntax"
	"stopwatch/typing"
)

func leaf(by ...int) api.Node { return api.Node{By: by} }

func inner(v, n, yes, no int) api.Node { return api.Node{Var: v, N: n, Yes: yes, No: no} }

func tree(l ...api.Node) api.Tree { return api.Tree{Nodes: l} }

// ties reads a tie rule.
func ties(t *testing.T, text string) []api.Step {
	t.Helper()
	l, at, e := syntax.Steps([]byte(text))
	if e != api.OK {
		t.Fatalf("%q: %d at %d", text, e, at)
	}
	return l
}

// copied returns a tree that shares no memory with t.
func copied(t api.Tree) api.Tree {
	t.Nodes = slices.Clone(t.Nodes)
	for i := range t.Nodes {
		t.Nodes[i].By = slices.Clone(t.Nodes[i].By)
	}
	return t
}

// equal compares trees, whether their lists are nil or empty.
func equal(a, b api.Tree) bool {
	return slices.EqualFunc(a.Nodes, b.Nodes, func(x, y api.Node) bool {
		return [4]int{x.Var, x.N, x.Yes, x.No} == [4]int{y.Var, y.N, y.Yes, y.No} && slices.Equal(x.By, y.By)
	})
}

// author invents tie rules and trees.
type author struct{ *rand.Rand }

func newAuthor(seed int64) *author { return &author{rand.New(rand.NewSource(seed))} }

// lower returns a number below n, mostly a small one.
func (a *author) lower(n int) int { return a.Intn(1 + a.Intn(n)) }

func (a *author) pick(l ...int) int { return l[a.Intn(len(l))] }

// cond returns a condition, at few values, so that many are alike.
func (a *author) cond(depth int) (c api.Cond) {
	if depth == 0 || a.Intn(3) == 0 {
		v := 1 + a.Intn(3)
		n := map[int]int{1: a.pick(0, 1, 2, 3, 6, 7, 8), 2: a.pick(0, 1, 2, 3, 9, 3999, 4000, 4001, 10000), 3: a.pick(0, 1, 1, 2)}[v]
		return api.Cond{Kind: api.AtLeastC, Var: v, N: n}
	}
	c.Kind = a.pick(api.AndC, api.OrC, api.NotC)
	for range map[int]int{api.AndC: 1 + a.lower(4), api.OrC: 1 + a.lower(4), api.NotC: 1}[c.Kind] {
		c.Parts = append(c.Parts, a.cond(depth-1))
	}
	return c
}

func (a *author) steps(depth int) (l []api.Step) {
	for range 1 + a.lower(4) {
		if depth == 0 || a.Intn(4) == 0 {
			l = append(l, api.Step{Kind: api.ByS, By: 1 + a.Intn(5)})
			continue
		}
		s := api.Step{Kind: api.IfS, Cond: a.cond(2), Then: a.steps(depth - 1)}
		if a.Intn(4) > 0 {
			s.Else = a.steps(depth - 1)
		}
		l = append(l, s)
	}
	return l
}

// ties returns a valid tie rule.
func (a *author) ties(depth int) []api.Step {
	for {
		if l := a.steps(depth); typing.Ties(l) == api.OK {
			return l
		}
	}
}

// ruleFields are numbers of starters at which the author's tie rules can change, each with the number before it.
func ruleFields() []int { return []int{0, 1, 2, 3, 8, 9, 3998, 3999, 4000} }

func (a *author) criteria() []int {
	l := []int{1, 2, 3, 4, 5}
	a.Shuffle(5, func(i, k int) { l[i], l[k] = l[k], l[i] })
	return l[:a.Intn(6)]
}

// tree returns a valid tree for a meaning that repeats itself, and the numbers of starters at which it changes.
func (a *author) tree() (t api.Tree, fields []int) {
	fields = []int{0, 1, 4000}
	for range a.lower(8) {
		fields = append(fields, 1+a.Intn(4000), 1+a.Intn(8))
	}
	slices.Sort(fields)
	fields = slices.Compact(fields)
	leaves := [][]int{a.criteria(), a.criteria(), a.criteria(), a.criteria(), a.criteria()}[:1+a.Intn(5)]
	pairs := make([][2]int, 1+a.Intn(6))
	for i := range pairs {
		pairs[i] = [2]int{a.Intn(len(leaves)), a.Intn(len(leaves))}
	}
	rows := make([][]int, 1+a.Intn(4))
	for i := range rows {
		for range fields {
			rows[i] = append(rows[i], a.Intn(len(pairs)))
		}
	}
	var distances [8]int
	for i := range distances {
		distances[i] = a.Intn(len(rows))
	}
	return chapterTree(fields, func(x api.Env) []int {
		row := rows[distances[x.Distance]]
		return leaves[pairs[row[slices.Index(fields, x.Field)]][x.Short]]
	}), fields
}

// altered returns a tree like t, apart from few changes.
func (a *author) altered(t api.Tree) api.Tree {
	t = copied(t)
	for range 1 + a.lower(3) {
		if len(t.Nodes) == 0 {
			return t
		}
		a.alterNode(&t.Nodes[a.Intn(len(t.Nodes))], len(t.Nodes))
		i := a.Intn(len(t.Nodes) + 1)
		switch a.Intn(8) {
		case 0:
			t.Nodes = slices.Insert(t.Nodes, i, leaf(a.criteria()...))
		case 1:
			t.Nodes = slices.Delete(t.Nodes, min(i, len(t.Nodes)-1), len(t.Nodes))
		case 2:
			k := a.Intn(len(t.Nodes))
			t.Nodes[i%len(t.Nodes)], t.Nodes[k] = t.Nodes[k], t.Nodes[i%len(t.Nodes)]
		}
	}
	return t
}

func (a *author) alterNode(n *api.Node, many int) {
	strange := a.pick(-1, 0, 1, 2, 3, 4, 7, 8, many-1, many, 4000, 4001, math.MinInt, math.MaxInt, a.Intn(many))
	switch a.Intn(6) {
	case 0:
		n.Var = a.pick(0, 1, 2, 3, 4, -1, strange)
	case 1:
		n.N = a.pick(n.N-1, n.N+1, strange)
	case 2:
		n.Yes = a.pick(n.Yes-1, n.Yes+1, strange)
	case 3:
		n.No = a.pick(n.No-1, n.No+1, strange)
	case 4:
		n.Yes, n.No = n.No, n.Yes
	case 5:
		n.By = a.criteria()
		if a.Intn(3) == 0 {
			n.By = append(n.By, strange)
		}
	}
}

// choose returns steps that apply yes if a condition holds, and otherwise no.
func choose(c api.Cond, yes, no []api.Step) []api.Step {
	if len(yes) == 0 && len(no) == 0 {
		return nil
	}
	if len(yes) == 0 {
		c, yes, no = api.Cond{Kind: api.NotC, Parts: []api.Cond{c}}, no, nil
	}
	return []api.Step{{Kind: api.IfS, Cond: c, Then: yes, Else: no}}
}

// rule returns a tie rule whose decisions are those of a tree.
func rule(t api.Tree) []api.Step {
	var from func(i int) []api.Step
	from = func(i int) (l []api.Step) {
		n := t.Nodes[i]
		if n.Var > 0 {
			return choose(api.Cond{Kind: api.AtLeastC, Var: n.Var, N: n.N}, from(n.Yes), from(n.No))
		}
		for _, c := range n.By {
			l = append(l, api.Step{Kind: api.ByS, By: c})
		}
		return l
	}
	if l := from(0); len(l) > 0 {
		return l
	}
	never := api.Cond{Kind: api.AtLeastC, Var: api.ShortV, N: 2}
	return []api.Step{{Kind: api.IfS, Cond: never, Then: []api.Step{{Kind: api.ByS, By: api.BibB}}}}
}

// rewritten returns a valid rule that applies the same criteria as l.
func (a *author) rewritten(l []api.Step) []api.Step {
	l = slices.Clone(l)
	for i, s := range l {
		not := func(c api.Cond) api.Cond { return api.Cond{Kind: api.NotC, Parts: []api.Cond{c}} }
		switch {
		case s.Kind == api.ByS && a.Intn(3) == 0:
			l[i] = api.Step{Kind: api.IfS, Cond: a.cond(1), Then: []api.Step{s}, Else: []api.Step{s}}
		case s.Kind == api.IfS && len(s.Else) > 0 && a.Intn(2) == 0:
			l[i] = api.Step{Kind: api.IfS, Cond: not(s.Cond), Then: s.Else, Else: s.Then}
		case s.Kind == api.IfS && a.Intn(2) == 0:
			both := api.Cond{Kind: api.AndC, Parts: []api.Cond{s.Cond, a.cond(1)}}
			l[i].Cond = api.Cond{Kind: api.OrC, Parts: []api.Cond{both, s.Cond}}
		}
	}
	if a.Intn(2) == 0 {
		l = append(l, l[a.Intn(len(l))]) // criteria that have been applied
	}
	return l
}

// evalFrom returns the criteria at the end of a path that begins at a node.
func evalFrom(t api.Tree, at int, x api.Env) []int {
	v := [4]int{0, x.Distance, x.Field, x.Short}
	for n := t.Nodes[at]; n.Var > 0; n = t.Nodes[at] {
		at = n.No
		if v[n.Var] >= n.N {
			at = n.Yes
		}
	}
	return t.Nodes[at].By
}

// long returns a valid tree of 7 + 4000 + 1 inner nodes, all on one path, and of 2 leaves and more.
func long(more int) (t api.Tree) {
	const leaves = 7 + 4000 + 1
	for i := range leaves - 1 {
		t.Nodes = append(t.Nodes, inner(1, i+1, i+1, leaves+i%2))
		if i >= 7 {
			t.Nodes[i].Var, t.Nodes[i].N = 2, i-6
		}
	}
	t.Nodes = append(t.Nodes, inner(3, 1, leaves, leaves+1), leaf(1), leaf(2))
	others := manyCriteria()[3:]
	// The visit returns from the end of the path to its beginning.
	for i := range more {
		t.Nodes[more-1-i].No = len(t.Nodes)
		t.Nodes = append(t.Nodes, leaf(others[i]...))
	}
	return t
}

// manyCriteria returns all lists of criteria without repetitions, beginning with none, 1 and 2.
func manyCriteria() [][]int {
	l := [][]int{nil}
	for i := 0; i < len(l); i++ {
		for c := 1; c <= 5; c++ {
			if !slices.Contains(l[i], c) {
				l = append(l, append(slices.Clone(l[i]), c))
			}
		}
	}
	return l
}
