package analyse_test

import (
	"slices"
	"testing"

	"stopwatch/analyse"
	"stopwatch/api"
	"stopwatch/trees"
	"stopwatch/typing"
)

// P11.4

// without returns a tie rule without the leaf with a path.
func without(l []api.Step, path []int) []api.Step {
	l = slices.Clone(l)
	at := path[0]
	switch {
	case len(path) == 1:
		return slices.Delete(l, at, at+1)
	case path[1] >= 0:
		l[at].Then = without(l[at].Then, path[1:])
	default:
		l[at].Else = without(l[at].Else, slices.Concat([]int{-1 - path[1]}, path[2:]))
	}
	return l
}

// applySame reports whether typing.Direct returns the same criteria for two tie rules.
func applySame(t *testing.T, l, m []api.Step, x api.Env) bool {
	t.Helper()
	p, e := typing.Direct(l, x)
	q, f := typing.Direct(m, x)
	if e != api.OK || f != api.OK {
		t.Fatal(l, m, e, f)
	}
	return slices.Equal(p, q)
}

// expectSame expects two tie rules to apply the same criteria everywhere, if the second one is valid.
func expectSame(t *testing.T, l, m []api.Step) (valid bool) {
	t.Helper()
	if typing.Ties(m) != api.OK {
		return false
	}
	environments(ruleFields(), func(x api.Env) {
		if !applySame(t, l, m, x) {
			t.Fatal(l, m, x)
		}
	})
	return true
}

func TestDeadLeavesHaveNoEffect(t *testing.T) {
	a := newAuthor(11)
	alone, together := 0, 0
	for range 1000 {
		l := a.ties(1 + a.Intn(3))
		dead, e := analyse.Dead(l)
		if e != api.OK {
			t.Fatal(l, e)
		}
		if len(dead) > 0 && expectSame(t, l, without(l, one(a, dead...).Path)) {
			alone++
		}
		rest, taken := l, 0
		for _, d := range slices.Backward(dead) { // what follows a leaf that is taken away has another path
			if m := without(rest, d.Path); typing.Ties(m) == api.OK {
				rest = m
				taken++
			}
		}
		if taken > 1 && expectSame(t, l, rest) {
			together++
		}
	}
	if alone < 300 || together < 300 {
		t.Error(alone, together)
	}
}

// A leaf that is not dead applies its criterion first in some environment: it is missed there, unless a later leaf applies it.
func TestOtherLeavesHaveAnEffect(t *testing.T) {
	a := newAuthor(12)
	missed := 0
	for range 2000 {
		l := a.ties(1 + a.Intn(3))
		dead, _ := analyse.Dead(l)
		paths := chapterPaths(l)
		for i, p := range paths {
			by, _ := chapterLeaf(l, p, api.Env{})
			last := !slices.ContainsFunc(paths[i+1:], func(q []int) bool {
				other, _ := chapterLeaf(l, q, api.Env{})
				return other == by
			})
			m := without(l, p)
			if !last || slices.ContainsFunc(dead, func(d api.Dead) bool { return slices.Equal(d.Path, p) }) || typing.Ties(m) != api.OK {
				continue
			}
			missed++
			if same, x, e := analyse.Equal(l, m); same || applySame(t, l, m, x) || e != api.OK {
				t.Fatal(l, p, same, x, e)
			}
		}
	}
	if missed < 1000 {
		t.Error(missed)
	}
}

func TestEqualRulesHaveTheSameTree(t *testing.T) {
	a := newAuthor(13)
	found := map[bool]int{}
	for range 4000 {
		l, m := a.pair()
		p, e := trees.Compile(l)
		q, f := trees.Compile(m)
		same, _, g := analyse.Equal(l, m)
		if e != api.OK || f != api.OK || g != api.OK || same != trees.Same(p, q) {
			t.Fatal(l, m, same, e, f, g)
		}
		found[same]++
	}
	if found[false] < 1000 || found[true] < 1000 {
		t.Error(found)
	}
}

func TestEqualIsReflexiveAndSymmetric(t *testing.T) {
	a := newAuthor(14)
	for range 2000 {
		l, m := a.pair()
		if same, x, e := analyse.Equal(l, slices.Clone(l)); !same || x != (api.Env{}) || e != api.OK {
			t.Fatal(l, same, x, e)
		}
		same, x, e := analyse.Equal(l, m)
		again, y, f := analyse.Equal(m, l)
		if same != again || x != y || e != api.OK || f != api.OK {
			t.Fatal(l, m, same, again, x, y, e, f)
		}
		if typing.Env(x) != api.OK || !same && applySame(t, l, m, x) {
			t.Fatal(l, m, x)
		}
	}
}

// The environment of Unbroken is one in which neither bibs nor lots break ties; a rule that ends with one of them has none.
func TestUnbrokenLeavesTies(t *testing.T) {
	a := newAuthor(15)
	for range 2000 {
		l := a.ties(1 + a.Intn(3))
		x, ok, e := analyse.Unbroken(l)
		applied, f := typing.Direct(l, x)
		if e != api.OK || f != api.OK || ok && (slices.Contains(applied, api.BibB) || slices.Contains(applied, api.DrawB)) {
			t.Fatal(l, x, ok, e, f)
		}
		l = append(l, by(one(a, api.BibB, api.DrawB)))
		if x, ok, e := analyse.Unbroken(l); typing.Ties(l) == api.OK && (ok || x != (api.Env{}) || e != api.OK) {
			t.Fatal(l, x, ok, e)
		}
	}
}

func contains(l []int, m []int) bool {
	return !slices.ContainsFunc(m, func(x int) bool { return !slices.Contains(l, x) })
}

func TestFewerCutoffsLeaveMorePossible(t *testing.T) {
	fewer := 0
	eachCourse(t, 1500, func(a author, c api.Course, _ func() api.Course) {
		before, e := analyse.Impossible(c)
		for i := range c.Distances {
			l := c.Distances[i].Cutoffs
			if len(l) == 0 {
				continue
			}
			k := a.Intn(len(l))
			c.Distances[i].Cutoffs = slices.Concat(l[:k], l[k+1:])
			after, f := analyse.Impossible(c)
			if e != api.OK || f != api.OK || !contains(before, after) || !contains(after, slices.DeleteFunc(slices.Clone(before), func(x int) bool { return x == i })) {
				t.Fatal(c.Distances, before, after, e, f)
			}
			if len(after) < len(before) {
				fewer++
			}
			before = after
		}
	})
	if fewer < 500 {
		t.Error(fewer)
	}
}

func TestFewerCategoriesOverlapLess(t *testing.T) {
	fewer := 0
	eachCourse(t, 3000, func(a author, c api.Course, _ func() api.Course) {
		before, e := analyse.Overlap(c)
		if len(c.Categories) == 0 {
			return
		}
		k := a.Intn(len(c.Categories))
		c.Categories = slices.Concat(c.Categories[:k], c.Categories[k+1:])
		after, f := analyse.Overlap(c)
		if e != api.OK || f != api.OK || !contains(before, after) {
			t.Fatal(c.Categories, before, after, e, f)
		}
		if len(after) < len(before) {
			fewer++
		}
	})
	if fewer < 500 {
		t.Error(fewer)
	}
}
