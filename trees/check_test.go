package trees_test

import (
	"math"
	"slices"
	"testing"

	"stopwatch/api"
	"stopwatch/trees"
)

func TestCheckExamples(t *testing.T) {
	for i, x := range []struct {
		t    api.Tree
		want api.Errno
	}{
		{tree(leaf()), api.OK},
		{tree(leaf(3)), api.OK},
		{api.Tree{}, api.ErrTree},
		{tree(inner(2, 0, 1, 2), leaf(4), leaf(5)), api.ErrTree},
		{tree(inner(2, 3, 1, 2), leaf(4), leaf(5)), api.OK},
		// Each node is a leaf or an inner node.
		{tree(leaf(5, 4, 3, 2, 1)), api.OK},
		{tree(leaf(5, 4, 3, 2, 1, 5)), api.ErrTree},
		{tree(leaf(1, 2, 1)), api.ErrTree},
		{tree(inner(2, 3, 1, 1), leaf(4)), api.ErrTree},
		{tree(inner(2, 3, 1, 1), leaf(4), leaf(5)), api.ErrTree},
		{tree(inner(2, 3, 0, 1), leaf(4)), api.ErrTree},
		{tree(inner(2, 3, 1, 0), leaf(4)), api.ErrTree},
		{tree(inner(2, 3, 1, 2), leaf(4)), api.ErrTree},
		{tree(inner(2, 3, 2, 1), leaf(4)), api.ErrTree},
		{tree(inner(2, 3, -1, 1), leaf(4)), api.ErrTree},
		{tree(api.Node{Var: 2, N: 3, Yes: 1, No: 2, By: []int{1}}, leaf(4), leaf(5)), api.ErrTree},
		// No two nodes are equal.
		{tree(inner(2, 3, 1, 2), leaf(4), leaf(4)), api.ErrTree},
		{tree(inner(2, 3, 1, 2), leaf(4), leaf(4, 5)), api.OK},
		{tree(inner(2, 3, 1, 2), leaf(), leaf(1)), api.OK},
		{tree(inner(2, 3, 1, 2), api.Node{By: []int{}}, api.Node{}), api.ErrTree},
		{tree(inner(1, 2, 1, 4), inner(2, 5, 2, 3), leaf(1), leaf(2), inner(2, 5, 3, 2)), api.OK},
		{tree(inner(1, 2, 1, 4), inner(2, 5, 2, 3), leaf(1), leaf(2), inner(2, 6, 2, 3)), api.OK},
		{tree(inner(1, 2, 1, 4), inner(2, 5, 2, 3), leaf(1), leaf(2), inner(2, 5, 2, 3)), api.ErrTree},
		// What follows has a greater variable, or, after Yes, a greater number.
		{tree(inner(1, 2, 1, 3), inner(1, 3, 2, 4), leaf(1), leaf(2), leaf(3)), api.ErrTree},
		{tree(inner(1, 2, 1, 4), inner(1, 3, 2, 3), leaf(1), leaf(2), leaf(3)), api.OK},
		{tree(inner(1, 2, 1, 2), inner(1, 3, 2, 3), leaf(1), leaf(2)), api.OK},
		{tree(inner(1, 2, 1, 3), inner(1, 3, 2, 3), leaf(1), leaf(2)), api.ErrTree},
		{tree(inner(1, 3, 1, 4), inner(1, 3, 2, 3), leaf(1), leaf(2), leaf(3)), api.ErrTree},
		{tree(inner(1, 3, 1, 4), inner(1, 2, 2, 3), leaf(1), leaf(2), leaf(3)), api.ErrTree},
		{tree(inner(1, 3, 1, 2), leaf(1), inner(1, 2, 3, 4), leaf(2), leaf(3)), api.ErrTree},
		{tree(inner(1, 3, 1, 2), leaf(1), inner(1, 4, 3, 4), leaf(2), leaf(3)), api.ErrTree},
		{tree(inner(1, 3, 1, 2), leaf(1), inner(2, 3, 3, 4), leaf(2), leaf(3)), api.OK},
		{tree(inner(1, 3, 1, 4), inner(2, 3, 2, 3), leaf(2), leaf(3), leaf(1)), api.OK},
		{tree(inner(1, 3, 1, 3), inner(2, 3, 2, 3), leaf(2), leaf(3)), api.OK}, // No is the same, but not the variable
		{tree(inner(2, 3, 1, 4), inner(3, 1, 2, 3), leaf(2), leaf(3), leaf(1)), api.OK},
		{tree(inner(2, 3, 1, 4), inner(1, 1, 2, 3), leaf(2), leaf(3), leaf(1)), api.ErrTree},
		{tree(inner(2, 3, 1, 2), leaf(1), inner(1, 1, 3, 4), leaf(2), leaf(3)), api.ErrTree},
		// The nodes are in the order of the visit.
		{tree(inner(2, 3, 2, 1), leaf(4), leaf(5)), api.ErrTree},
		{tree(inner(1, 2, 1, 2), inner(1, 3, 3, 4), leaf(1), leaf(2), leaf(3)), api.ErrTree},
		{tree(inner(1, 2, 2, 1), leaf(1), inner(1, 3, 3, 4), leaf(2), leaf(3)), api.ErrTree},
		{tree(leaf(1), inner(1, 2, 0, 2), leaf(2)), api.ErrTree},
		{tree(inner(2, 3, 1, 2), leaf(4), leaf(5), leaf(3)), api.ErrTree},
		{tree(leaf(1), leaf(2)), api.ErrTree},
	} {
		if e := trees.Check(x.t); e != x.want {
			t.Error(i, x.t, e)
		}
	}
}

// The greatest and the least numbers that each variable admits, and all others that are close or extreme.
func TestCheckNumbers(t *testing.T) {
	numbers := []int{math.MinInt, -1, 0, 1, 2, 6, 7, 8, 9, 3999, 4000, 4001, 4002, 10000, math.MaxInt}
	for _, v := range append([]int{3, 4, 5}, numbers...) {
		for _, n := range numbers {
			want := api.ErrTree
			if greatest := map[int]int{1: 7, 2: 4000, 3: 1}[v]; 1 <= n && n <= greatest {
				want = api.OK
			}
			x := tree(inner(v, n, 1, 2), leaf(1), leaf(2))
			if e := trees.Check(x); e != want {
				t.Error(v, n, e)
			}
		}
	}
	for _, i := range numbers {
		if i == 0 {
			continue
		}
		for k, n := range []api.Node{{Var: i}, {N: i}, {Yes: i}, {No: i}, {By: []int{1, i}}} {
			if e := trees.Check(tree(n)); e != api.ErrTree && !(k == 4 && i == 2) {
				t.Error(i, k, e)
			}
		}
		for k, n := range []api.Node{inner(2, 3, i, 2), inner(2, 3, 1, i)} {
			if e := trees.Check(tree(n, leaf(1), leaf(2))); e != api.ErrTree && i != k+1 {
				t.Error(i, k, e)
			}
		}
	}
}

func TestCheckCriteria(t *testing.T) {
	l := manyCriteria()
	if len(l) != 1+5+20+60+120+120 {
		t.Fatal(len(l))
	}
	accepted := 0
	for n := range 8 * 8 * 8 * 8 * 8 * 8 {
		var by []int
		for ; n > 0; n /= 8 {
			by = append(by, n%8-1)
		}
		want := api.ErrTree
		if slices.ContainsFunc(l, func(x []int) bool { return slices.Equal(x, by) }) {
			want = api.OK
			accepted++
		}
		if e := trees.Check(tree(leaf(by...))); e != want {
			t.Fatal(by, e)
		}
	}
	if accepted != len(l) {
		t.Error(accepted)
	}
}

func TestCheckLimit(t *testing.T) {
	for _, x := range []struct {
		t    api.Tree
		want api.Errno
	}{
		{long(0), api.OK},
		{long(86), api.OK},
		{long(87), api.ErrLimit}, // valid otherwise
		{tree(long(87).Nodes[:4096]...), api.ErrTree},
		{tree(make([]api.Node, 4096)...), api.ErrTree},
		{tree(make([]api.Node, 4097)...), api.ErrLimit},
		{tree(make([]api.Node, 100000)...), api.ErrLimit},
	} {
		if e := trees.Check(x.t); e != x.want {
			t.Error(len(x.t.Nodes), e)
		}
	}
	if n := len(long(86).Nodes); n != 4096 {
		t.Error(n)
	}
}

// smallNodes are nodes of trees with few nodes.
func smallNodes(many int) (l []api.Node) {
	l = []api.Node{leaf(), leaf(1), leaf(2), leaf(2, 1), leaf(1, 1)}
	for _, x := range [][2]int{{1, 1}, {1, 2}, {2, 5}, {2, 6}, {3, 1}} {
		for yes := range many {
			for no := range many {
				l = append(l, inner(x[0], x[1], yes, no))
			}
		}
	}
	return l
}

// everyTree calls f for all trees of some of these nodes.
func everyTree(nodes []api.Node, many int, f func(x api.Tree)) {
	l := make([]api.Node, many)
	var fill func(i int)
	fill = func(i int) {
		if i == many {
			f(api.Tree{Nodes: l})
			return
		}
		for _, n := range nodes {
			l[i] = n
			fill(i + 1)
		}
	}
	fill(0)
}

func TestCheckAllSmallTrees(t *testing.T) {
	for many := range 4 {
		nodes, valid := smallNodes(many), 0
		everyTree(nodes, many, func(x api.Tree) {
			e := trees.Check(x)
			if e == api.OK {
				valid++
			}
			if e != chapterCheck(x) {
				t.Fatal(x, e)
			}
		})
		// Trees of 3 nodes are 5 choices between two of 4 leaves.
		if want := []int{0, 4, 0, 5 * 4 * 3}[many]; valid != want {
			t.Error(many, valid)
		}
	}
}

func TestCheckRandomTrees(t *testing.T) {
	a := newAuthor(1)
	counts := map[api.Errno]int{}
	for range 3000 {
		x, _ := a.tree()
		if e := trees.Check(x); e != api.OK || chapterCheck(x) != api.OK {
			t.Fatal(x, e)
		}
		for range 30 {
			y := a.altered(x)
			e := trees.Check(y)
			counts[e]++
			if e != chapterCheck(y) {
				t.Fatal(y, e)
			}
		}
	}
	if counts[api.OK] < 1000 || counts[api.ErrTree] < 10000 {
		t.Error(counts)
	}
}

func TestCheckKeepsArguments(t *testing.T) {
	for seed := range int64(200) {
		x, _ := newAuthor(seed).tree()
		again, _ := newAuthor(seed).tree()
		trees.Check(x)
		trees.Same(x, again)
		if !equal(x, again) || trees.Check(x) != trees.Check(again) {
			t.Fatal(x)
		}
	}
}

func TestSame(t *testing.T) {
	x := tree(inner(2, 3, 1, 2), leaf(4), leaf(5, 1))
	for i, y := range []api.Tree{
		{},
		tree(leaf(4)),
		tree(x.Nodes[:2]...),
		tree(append(slices.Clone(x.Nodes), leaf())...),
		tree(inner(1, 3, 1, 2), leaf(4), leaf(5, 1)),
		tree(inner(2, 4, 1, 2), leaf(4), leaf(5, 1)),
		tree(inner(2, 3, 2, 2), leaf(4), leaf(5, 1)),
		tree(inner(2, 3, 1, 1), leaf(4), leaf(5, 1)),
		tree(inner(2, 3, 1, 2), leaf(3), leaf(5, 1)),
		tree(inner(2, 3, 1, 2), leaf(), leaf(5, 1)),
		tree(inner(2, 3, 1, 2), leaf(4), leaf(1, 5)),
		tree(inner(2, 3, 1, 2), leaf(4), leaf(5)),
		tree(inner(2, 3, 2, 1), leaf(5, 1), leaf(4)), // the same meaning
	} {
		if trees.Same(x, y) || trees.Same(y, x) || !trees.Same(y, copied(y)) {
			t.Error(i, y)
		}
	}
	if !trees.Same(x, copied(x)) {
		t.Error(x)
	}
}

// Same accepts all trees, whatever is in them.
func TestSameOfInvalidTrees(t *testing.T) {
	strange := tree(api.Node{Var: -1, N: math.MinInt, Yes: math.MaxInt, No: -5, By: []int{9, 9, -9}}, api.Node{})
	different := copied(strange)
	different.Nodes[0].By[2] = 9
	large, larger := tree(make([]api.Node, 5000)...), tree(make([]api.Node, 5001)...)
	for i, x := range []struct {
		a, b api.Tree
		want bool
	}{
		{api.Tree{}, api.Tree{Nodes: []api.Node{}}, true},
		{tree(api.Node{By: []int{}}), tree(api.Node{}), true},
		{strange, copied(strange), true},
		{strange, different, false},
		{large, copied(large), true},
		{large, larger, false},
	} {
		if trees.Same(x.a, x.b) != x.want || trees.Same(x.b, x.a) != x.want {
			t.Error(i)
		}
	}
}

func TestSameOfAlteredTrees(t *testing.T) {
	a := newAuthor(2)
	unequal := 0
	for range 5000 {
		x, _ := a.tree()
		y := a.altered(x)
		if !equal(x, y) {
			unequal++
		}
		if trees.Same(x, y) != equal(x, y) || !trees.Same(x, copied(x)) {
			t.Fatal(x, y)
		}
	}
	if unequal < 3000 {
		t.Error(unequal)
	}
}
