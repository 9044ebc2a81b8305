package trees_test

import (
	"math"
	"slices"
	"testing"

	"stopwatch/api"
	"stopwatch/trees"
)

// three is a tree with all variables: two nodes lead to its node 4, and two to its leaf 7.
func three() api.Tree {
	return tree(
		inner(1, 2, 1, 8),
		inner(1, 5, 2, 7),
		inner(2, 100, 3, 4),
		leaf(1, 4),
		inner(3, 1, 5, 6),
		leaf(2, 5),
		leaf(),
		leaf(3),
		inner(2, 50, 7, 4),
	)
}

func TestEvalByHand(t *testing.T) {
	for _, x := range []struct {
		x    api.Env
		want []int
	}{
		{api.Env{Distance: 0, Field: 0, Short: 0}, nil},
		{api.Env{Distance: 0, Field: 0, Short: 1}, []int{2, 5}},
		{api.Env{Distance: 1, Field: 49, Short: 1}, []int{2, 5}},
		{api.Env{Distance: 1, Field: 50, Short: 1}, []int{3}},
		{api.Env{Distance: 1, Field: 4000, Short: 0}, []int{3}},
		{api.Env{Distance: 2, Field: 0, Short: 0}, []int{3}},
		{api.Env{Distance: 4, Field: 4000, Short: 1}, []int{3}},
		{api.Env{Distance: 5, Field: 99, Short: 0}, nil},
		{api.Env{Distance: 5, Field: 99, Short: 1}, []int{2, 5}},
		{api.Env{Distance: 5, Field: 100, Short: 0}, []int{1, 4}},
		{api.Env{Distance: 7, Field: 4000, Short: 1}, []int{1, 4}},
	} {
		if by, e := trees.Eval(three(), x.x); e != api.OK || !slices.Equal(by, x.want) {
			t.Error(x.x, by, e)
		}
	}
}

func TestReachByHand(t *testing.T) {
	for i, want := range []api.Env{
		{},
		{Distance: 2},
		{Distance: 5},
		{Distance: 5, Field: 100},
		{},
		{Short: 1},
		{},
		{Field: 50},
		{},
	} {
		if x, ok, e := trees.Reach(three(), i); x != want || !ok || e != api.OK {
			t.Error(i, x, ok, e)
		}
	}
}

// The first way to a node that is found is not always the one with the fewest choices, or the one of the visit.
func TestReachPrefersLesserDistances(t *testing.T) {
	x := tree(
		inner(1, 3, 1, 2),
		leaf(1), // of Distance 3, and of Distance 0 with Field 7 and Short 1
		inner(2, 7, 3, 4),
		inner(3, 1, 1, 4),
		leaf(2),
	)
	if got, ok, e := trees.Reach(x, 1); got != (api.Env{Field: 7, Short: 1}) || !ok || e != api.OK {
		t.Error(got, ok, e)
	}
	if got, ok, e := trees.Reach(x, 4); got != (api.Env{}) || !ok || e != api.OK {
		t.Error(got, ok, e)
	}
}

// Both functions check the tree before their other argument, and return nothing beside an error.
func TestEvalErrors(t *testing.T) {
	good, bad, large := three(), tree(leaf(6)), tree(make([]api.Node, 4097)...)
	env := api.Env{Distance: 7, Field: 4000, Short: 1}
	for i, x := range []struct {
		t    api.Tree
		x    api.Env
		want api.Errno
	}{
		{good, env, api.OK},
		{api.Tree{}, env, api.ErrTree},
		{api.Tree{}, api.Env{Short: 2}, api.ErrTree},
		{bad, env, api.ErrTree},
		{bad, api.Env{Field: -1}, api.ErrTree},
		{large, env, api.ErrLimit},
		{large, api.Env{Distance: 8}, api.ErrLimit},
		{good, api.Env{Distance: -1}, api.ErrArg},
		{good, api.Env{Distance: 8}, api.ErrArg},
		{good, api.Env{Field: -1}, api.ErrArg},
		{good, api.Env{Field: 4001}, api.ErrArg},
		{good, api.Env{Short: -1}, api.ErrArg},
		{good, api.Env{Short: 2}, api.ErrArg},
		{good, api.Env{Distance: math.MinInt, Field: math.MaxInt, Short: math.MaxInt}, api.ErrArg},
		{tree(leaf(1)), api.Env{Distance: 8}, api.ErrArg},
	} {
		by, e := trees.Eval(x.t, x.x)
		if e != x.want || e != api.OK && by != nil {
			t.Error(i, by, e)
		}
	}
}

func TestReachErrors(t *testing.T) {
	good, bad, large := three(), tree(leaf(1), leaf(1)), tree(make([]api.Node, 4097)...)
	for i, x := range []struct {
		t    api.Tree
		node int
		want api.Errno
	}{
		{good, 8, api.OK},
		{good, 9, api.ErrArg},
		{good, -1, api.ErrArg},
		{good, math.MinInt, api.ErrArg},
		{good, math.MaxInt, api.ErrArg},
		{tree(leaf(1)), 1, api.ErrArg},
		{api.Tree{}, 0, api.ErrTree},
		{api.Tree{}, -1, api.ErrTree},
		{bad, 1, api.ErrTree},
		{bad, 2, api.ErrTree},
		{large, 0, api.ErrLimit},
		{large, -1, api.ErrLimit},
	} {
		got, ok, e := trees.Reach(x.t, x.node)
		if e != x.want || ok != (e == api.OK) || e != api.OK && got != (api.Env{}) {
			t.Error(i, got, ok, e)
		}
	}
}

func TestEvalOfOneLeaf(t *testing.T) {
	for _, by := range manyCriteria() {
		x := tree(leaf(by...))
		for _, env := range []api.Env{{}, {Distance: 7, Field: 4000, Short: 1}} {
			if got, e := trees.Eval(x, env); e != api.OK || !slices.Equal(got, by) {
				t.Error(by, got, e)
			}
		}
		if env, ok, e := trees.Reach(x, 0); env != (api.Env{}) || !ok || e != api.OK {
			t.Error(by, env, ok, e)
		}
	}
}

func TestEvalOfRandomTrees(t *testing.T) {
	a := newAuthor(3)
	for range 150 {
		x, _ := a.tree()
		environments(fieldsOf(x), func(env api.Env) {
			by, e := trees.Eval(x, env)
			if e != api.OK || !slices.Equal(by, chapterEval(x, env)) {
				t.Fatal(x, env, by, e)
			}
		})
	}
}

func TestReachOfRandomTrees(t *testing.T) {
	a := newAuthor(4)
	for i := range 600 {
		x, _ := a.tree()
		fields := fieldsOf(x)
		if i < 10 {
			fields = allFields()
		}
		first := chapterReach(x, fields)
		for node := range x.Nodes {
			want, known := first[node]
			if env, ok, e := trees.Reach(x, node); !known || env != want || !ok || e != api.OK {
				t.Fatal(x, node, env, ok, e)
			}
		}
	}
}

// The longest path that there is, in a tree with as many nodes as there may be.
func TestEvalOfLongTree(t *testing.T) {
	x := long(86)
	a := newAuthor(5)
	envs := []api.Env{{}, {Short: 1}, {Distance: 6, Field: 4000, Short: 1}, {Distance: 7}, {Distance: 7, Field: 3999, Short: 1}, {Distance: 7, Field: 4000}, {Distance: 7, Field: 4000, Short: 1}}
	for range 100 {
		envs = append(envs, api.Env{Distance: a.pick(7, a.Intn(8)), Field: a.Intn(4001), Short: a.Intn(2)})
	}
	for _, env := range envs {
		if by, e := trees.Eval(x, env); e != api.OK || !slices.Equal(by, chapterEval(x, env)) {
			t.Error(env, by, e)
		}
	}
	for node, want := range map[int]api.Env{
		0:    {},
		7:    {Distance: 7},
		8:    {Distance: 7, Field: 1},
		4007: {Distance: 7, Field: 4000},
		4008: {Distance: 7, Field: 79}, // below this, the leaves are others
		4009: {Distance: 7, Field: 80},
		4010: {Distance: 7, Field: 78},
		4095: {},
	} {
		if env, ok, e := trees.Reach(x, node); env != want || !ok || e != api.OK {
			t.Error(node, env, ok, e)
		}
	}
}

func TestEvalKeepsArguments(t *testing.T) {
	for seed := range int64(200) {
		x, _ := newAuthor(seed).tree()
		again, _ := newAuthor(seed).tree()
		for node := range x.Nodes {
			env, _, _ := trees.Reach(x, node)
			by, _ := trees.Eval(x, env)
			kept := slices.Clone(by)
			later, _ := trees.Eval(x, env)
			if !slices.Equal(by, kept) || !slices.Equal(by, later) {
				t.Fatal(x, env, by, later)
			}
		}
		if !equal(x, again) {
			t.Fatal(x, again)
		}
	}
}
