package trees_test

import (
	"fmt"
	"slices"
	"strconv"

	"stopwatch/api"
)

// What the chapter says of trees, word by word and independently of package trees.

// chapterGreatest are the greatest values of the variables.
var chapterGreatest = map[int]int{1: 7, 2: 4000, 3: 1}

func chapterLeaf(n api.Node) bool {
	for i, c := range n.By {
		if c < 1 || c > 5 || slices.Index(n.By, c) != i {
			return false
		}
	}
	return n.Var == 0 && n.N == 0 && n.Yes == 0 && n.No == 0
}

func chapterInner(t api.Tree, n api.Node) bool {
	index := func(i int) bool { return i >= 0 && i < len(t.Nodes) }
	return n.Var >= 1 && n.Var <= 3 && n.N > 0 && n.N <= chapterGreatest[n.Var] && index(n.Yes) && index(n.No) && n.Yes != n.No && len(n.By) == 0
}

// chapterFollows is the third condition of valid trees.
func chapterFollows(t api.Tree, n api.Node) bool {
	yes, no := t.Nodes[n.Yes], t.Nodes[n.No]
	return (no.Var == 0 || no.Var > n.Var) &&
		(yes.Var == 0 || yes.Var > n.Var || yes.Var == n.Var && yes.N > n.N && yes.No != n.No)
}

func chapterOrder(t api.Tree) (order []int) {
	var visit func(i int)
	visit = func(i int) {
		if slices.Contains(order, i) {
			return
		}
		order = append(order, i)
		if t.Nodes[i].Var != 0 {
			visit(t.Nodes[i].Yes)
			visit(t.Nodes[i].No)
		}
	}
	visit(0)
	return order
}

func chapterValid(t api.Tree) bool {
	for _, n := range t.Nodes {
		if !chapterLeaf(n) && !chapterInner(t, n) {
			return false
		}
	}
	texts := map[string]bool{}
	for _, n := range t.Nodes {
		if n.Var != 0 && !chapterFollows(t, n) {
			return false
		}
		texts[fmt.Sprint(n)] = true
	}
	order := chapterOrder(t)
	return len(texts) == len(t.Nodes) && len(order) == len(t.Nodes) && slices.IsSorted(order)
}

func chapterCheck(t api.Tree) api.Errno {
	switch {
	case len(t.Nodes) > 4096:
		return api.ErrLimit
	case len(t.Nodes) == 0 || !chapterValid(t):
		return api.ErrTree
	}
	return api.OK
}

// chapterPath is for valid trees and environments.
func chapterPath(t api.Tree, x api.Env) (path []int) {
	at := 0
	for {
		path = append(path, at)
		n := t.Nodes[at]
		if n.Var == 0 {
			return path
		}
		at = n.No
		if map[int]int{1: x.Distance, 2: x.Field, 3: x.Short}[n.Var] >= n.N {
			at = n.Yes
		}
	}
}

func chapterEval(t api.Tree, x api.Env) []int {
	path := chapterPath(t, x)
	return t.Nodes[path[len(path)-1]].By
}

// environments calls f for environments in their order, with these numbers of starters.
func environments(fields []int, f func(x api.Env)) {
	for d := range 8 {
		for _, field := range fields {
			for s := range 2 {
				f(api.Env{Distance: d, Field: field, Short: s})
			}
		}
	}
}

// allFields are all numbers of starters.
func allFields() (l []int) {
	for n := range 4001 {
		l = append(l, n)
	}
	return l
}

// fieldsOf returns the numbers of starters between which no choice of a tree lies, each with the number before it.
func fieldsOf(t api.Tree) []int {
	l := []int{0, 4000}
	for _, n := range t.Nodes {
		if n.Var == 2 {
			l = append(l, n.N-1, n.N)
		}
	}
	slices.Sort(l)
	return slices.Compact(l)
}

// chapterReach returns the first environment of each node.
func chapterReach(t api.Tree, fields []int) map[int]api.Env {
	first := map[int]api.Env{}
	environments(fields, func(x api.Env) {
		for _, i := range chapterPath(t, x) {
			if _, known := first[i]; !known {
				first[i] = x
			}
		}
	})
	return first
}

// Tie rules.

func chapterHolds(c api.Cond, x api.Env) bool {
	held := 0
	for _, p := range c.Parts {
		if chapterHolds(p, x) {
			held++
		}
	}
	switch c.Kind {
	case 1:
		return []int{0, x.Distance, x.Field, x.Short}[c.Var] >= c.N
	case 2:
		return held == len(c.Parts)
	case 3:
		return held >= 1
	}
	return held == 0
}

func chapterDirect(l []api.Step, x api.Env) (by []int) {
	var apply func(l []api.Step)
	apply = func(l []api.Step) {
		for _, s := range l {
			switch {
			case s.Kind == 1 && !slices.Contains(by, s.By):
				by = append(by, s.By)
			case s.Kind == 2 && chapterHolds(s.Cond, x):
				apply(s.Then)
			case s.Kind == 2:
				apply(s.Else)
			}
		}
	}
	apply(l)
	return by
}

// drawing is a tree as a text, without indices of nodes.
type drawing struct {
	text    string
	node    api.Node
	yes, no *drawing
}

// chapterTree returns the one valid tree for a meaning that changes at no other numbers of starters than these.
func chapterTree(fields []int, meaning func(x api.Env) []int) api.Tree {
	domain := [][]int{1: {0, 1, 2, 3, 4, 5, 6, 7}, 2: fields, 3: {0, 1}}
	var draw func(v int, x [4]int) *drawing
	draw = func(v int, x [4]int) (all *drawing) {
		if v == 4 {
			by := meaning(api.Env{Distance: x[1], Field: x[2], Short: x[3]})
			return &drawing{text: fmt.Sprint(by), node: api.Node{By: by}}
		}
		var above *drawing
		for i := len(domain[v]) - 1; i >= 0; i-- {
			x[v] = domain[v][i]
			here := draw(v+1, x)
			switch {
			case above == nil:
				all = here
			case above.text != here.text:
				n := domain[v][i+1]
				text := strconv.Itoa(v) + ">=" + strconv.Itoa(n) + "(" + all.text + "," + here.text + ")"
				all = &drawing{text: text, node: api.Node{Var: v, N: n}, yes: all, no: here}
			}
			above = here
		}
		return all
	}
	return indexed(draw(1, [4]int{}))
}

// indexed gives the nodes of a drawing their indices.
func indexed(root *drawing) (t api.Tree) {
	index := map[string]int{}
	var visit func(d *drawing) int
	visit = func(d *drawing) int {
		if i, known := index[d.text]; known {
			return i
		}
		i := len(t.Nodes)
		index[d.text] = i
		t.Nodes = append(t.Nodes, d.node)
		if d.yes != nil {
			yes := visit(d.yes)
			no := visit(d.no)
			t.Nodes[i].Yes, t.Nodes[i].No = yes, no
		}
		return i
	}
	visit(root)
	return t
}
