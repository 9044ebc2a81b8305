package trees_test

import (
	"slices"
	"testing"

	"stopwatch/api"
	"stopwatch/trees"
	"stopwatch/typing"
)

// meaning returns the criteria in all environments with these numbers of starters, as Eval returns them.
func meaning(t *testing.T, x api.Tree, fields []int) string {
	t.Helper()
	var all []byte
	environments(fields, func(env api.Env) {
		by, e := trees.Eval(x, env)
		if e != api.OK {
			t.Fatal(x, env, e)
		}
		for _, c := range by {
			all = append(all, byte('0'+c))
		}
		all = append(all, ' ')
	})
	return string(all)
}

// smallTrees are all valid trees of up to 4 nodes with few choices and criteria.
func smallTrees() (l []api.Tree) {
	for many := 1; many <= 4; many++ {
		nodes := []api.Node{leaf(), leaf(1), leaf(2)}
		for yes := range many {
			for no := range many {
				if yes != no {
					nodes = append(nodes, inner(1, 1, yes, no), inner(1, 2, yes, no), inner(2, 5, yes, no), inner(3, 1, yes, no))
				}
			}
		}
		everyTree(nodes, many, func(x api.Tree) {
			if trees.Check(x) == api.OK {
				l = append(l, copied(x))
			}
		})
	}
	return l
}

// Two valid trees that have the same Eval for all environments are equal, and so are trees that are compiled from rules with this meaning.
func TestOneTreeForEachMeaning(t *testing.T) {
	l := smallTrees()
	known := map[string]api.Tree{}
	for _, x := range l {
		m := meaning(t, x, []int{0, 4, 5, 4000})
		if y, twice := known[m]; twice {
			t.Fatal(x, y)
		}
		known[m] = x
		if y, e := trees.Compile(rule(x)); e != api.OK || !trees.Same(x, y) {
			t.Fatal(x, y, e)
		}
	}
	if len(l) < 100 {
		t.Error(len(l))
	}
}

// shortFirst is a rule that asks for the variables in another order than trees.
func shortFirst(of func(x api.Env) []int) []api.Step {
	var ask func(l []int, x api.Env) []api.Step
	ask = func(l []int, x api.Env) (steps []api.Step) {
		if len(l) == 0 {
			for _, c := range of(x) {
				steps = append(steps, api.Step{Kind: api.ByS, By: c})
			}
			return steps
		}
		n := map[int]int{api.DistanceV: 1, api.FieldV: 9, api.ShortV: 1}[l[0]]
		y := map[int]api.Env{
			api.DistanceV: {Distance: 1, Field: x.Field, Short: x.Short},
			api.FieldV:    {Distance: x.Distance, Field: 9, Short: x.Short},
			api.ShortV:    {Distance: x.Distance, Field: x.Field, Short: 1},
		}[l[0]]
		return choose(api.Cond{Kind: api.AtLeastC, Var: l[0], N: n}, ask(l[1:], y), ask(l[1:], x))
	}
	return ask([]int{api.ShortV, api.FieldV, api.DistanceV}, api.Env{})
}

// Rules that ask in another order than trees have the trees of what they decide.
func TestTreesOfRulesInAnotherOrder(t *testing.T) {
	first := map[string]int{}
	for m := 0; m < 65536; m += 13 {
		by := [4][]int{nil, {1}, {2}, {2, 1}}
		cell := func(x api.Env) []int {
			return by[m>>(2*(min(x.Distance, 1)+2*min(x.Field/9, 1)+4*x.Short))%4]
		}
		l := shortFirst(cell)
		if len(l) == 0 {
			continue
		}
		x := chapterTree([]int{0, 9}, cell)
		y, e := trees.Compile(l)
		if e != api.OK || !trees.Same(x, y) || trees.Check(x) != api.OK {
			t.Fatal(m, x, y, e)
		}
		text := meaning(t, x, []int{0, 9})
		if other, twice := first[text]; twice {
			t.Fatal(m, other)
		}
		first[text] = m
	}
}

// Two tie rules apply the same criteria in all environments exactly if their trees are equal.
func TestEqualRulesHaveEqualTrees(t *testing.T) {
	a := newAuthor(9)
	equals := 0
	for range 3000 {
		l := a.ties(1)
		m := a.ties(1)
		if a.Intn(2) == 0 {
			m = a.rewritten(l)
		}
		same := true
		environments(ruleFields(), func(env api.Env) {
			x, e := typing.Direct(l, env)
			y, f := typing.Direct(m, env)
			same = same && slices.Equal(x, y) && e == api.OK && f == api.OK
		})
		x, e := trees.Compile(l)
		y, f := trees.Compile(m)
		if e != api.OK || f != api.OK || trees.Same(x, y) != same {
			t.Fatal(l, m, e, f)
		}
		if same {
			equals++
		}
	}
	if equals < 1000 || equals > 2500 {
		t.Error(equals)
	}
}

// Every node is on the path of the environment that Reach returns, and no choice can be replaced by either of what follows it.
func TestNoNodeCouldBeLeftOut(t *testing.T) {
	a := newAuthor(10)
	choices := 0
	for range 300 {
		x, _ := a.tree()
		fields := fieldsOf(x)
		needed := map[int]bool{} // children of inner nodes, by 2 times the node, or 1 more for No
		for i := range x.Nodes {
			env, ok, e := trees.Reach(x, i)
			if !ok || e != api.OK || !slices.Contains(chapterPath(x, env), i) {
				t.Fatal(x, i, env, ok, e)
			}
		}
		environments(fields, func(env api.Env) {
			for _, i := range chapterPath(x, env) {
				n := x.Nodes[i]
				if n.Var > 0 && !slices.Equal(evalFrom(x, n.Yes, env), evalFrom(x, i, env)) {
					needed[2*i+1] = true
				}
				if n.Var > 0 && !slices.Equal(evalFrom(x, n.No, env), evalFrom(x, i, env)) {
					needed[2*i] = true
				}
			}
		})
		for i, n := range x.Nodes {
			if n.Var > 0 && !(needed[2*i] && needed[2*i+1]) {
				t.Fatal(x, i)
			}
			choices += min(n.Var, 1)
		}
	}
	if choices < 1000 {
		t.Error(choices)
	}
}

// No path has more inner nodes than 7 + 4000 + 1, and one has so many.
func TestLongestPath(t *testing.T) {
	most := func(x api.Tree, fields []int) (many int) {
		environments(fields, func(env api.Env) { many = max(many, len(chapterPath(x, env))-1) })
		return many
	}
	if n := most(long(86), []int{4000}); n != 7+4000+1 {
		t.Error(n)
	}
	l, _ := stripes(t)
	x, _ := trees.Compile(l)
	if n := most(x, fieldsOf(x)); n < 100 || n > 7+4000+1 {
		t.Error(n)
	}
}
