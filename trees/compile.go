package trees

import (
	"slices"

	"stopwatch/api"
	"stopwatch/typing"
)

// builder collects different nodes; those that follow a node come before it.
type builder struct {
	nodes []api.Node
	index map[key]int
}

// Compile returns the decision tree of a tie rule.
func Compile(l []api.Step) (t api.Tree, e api.Errno) {
	if e := typing.Ties(l); e != api.OK {
		return api.Tree{}, e
	}
	b := builder{index: map[key]int{}}
	starts := startsOf(l)
	var build func(variable int, v values) int
	build = func(variable int, v values) int {
		if variable == len(starts) {
			by, _ := typing.Direct(l, v.env()) // both are valid
			return b.node(api.Node{By: by})
		}
		ranges := starts[variable]
		last := len(ranges) - 1
		at := build(variable+1, v.with(variable, ranges[last]))
		for i := last; i > 0; i-- {
			below := build(variable+1, v.with(variable, ranges[i-1]))
			at = b.choice(variable, ranges[i], at, below)
		}
		return at
	}
	t = b.tree(build(api.DistanceV, values{}))
	if len(t.Nodes) > api.MaxNodes {
		return api.Tree{}, api.ErrLimit
	}
	return t, api.OK
}

// startsOf returns for each variable, in order, where the ranges begin within which no condition changes.
func startsOf(l []api.Step) (starts [api.ShortV + 1][]int) {
	for variable := range starts {
		starts[variable] = []int{0}
	}
	var condition func(c api.Cond)
	condition = func(c api.Cond) {
		if c.Kind == api.AtLeastC && c.N <= greatest[c.Var] {
			starts[c.Var] = append(starts[c.Var], c.N)
		}
		for _, part := range c.Parts {
			condition(part)
		}
	}
	var walk func(l []api.Step)
	walk = func(l []api.Step) {
		for _, s := range l {
			condition(s.Cond)
			walk(s.Then)
			walk(s.Else)
		}
	}
	walk(l)
	for variable, ranges := range starts {
		slices.Sort(ranges)
		starts[variable] = slices.Compact(ranges)
	}
	return starts
}

// node returns the index of a node, which is added unless it is known.
func (b *builder) node(n api.Node) int {
	k := keyOf(n)
	i, known := b.index[k]
	if !known {
		i = len(b.nodes)
		b.index[k] = i
		b.nodes = append(b.nodes, n)
	}
	return i
}

// choice returns the index of a node for yes from n on and for no below it. The node yes may decide by the same variable, for greater values.
func (b *builder) choice(variable, n, yes, no int) int {
	next := yes // what follows for values that are not much greater than n
	if b.nodes[yes].Var == variable {
		next = b.nodes[yes].No
	}
	if next == no {
		return yes
	}
	return b.node(api.Node{Var: variable, N: n, Yes: yes, No: no})
}

// tree returns the nodes that follow a root, with the indices of a valid tree.
func (b *builder) tree(root int) (t api.Tree) {
	order := visited(b.nodes, root)
	index := make([]int, len(b.nodes))
	for i, at := range order {
		index[at] = i
	}
	for _, at := range order {
		n := b.nodes[at]
		if n.Var != leaf {
			n.Yes, n.No = index[n.Yes], index[n.No]
		}
		t.Nodes = append(t.Nodes, n)
	}
	return t
}
