package trees_test

import (
	"fmt"
	"slices"
	"strconv"
	"strings"
	"testing"

	"stopwatch/api"
	"stopwatch/trees"
	"stopwatch/typing"
)

func TestCompileByHand(t *testing.T) {
	for _, x := range []struct {
		rule string
		want api.Tree
	}{
		{"older;", tree(leaf(1))},
		{"if field >= 3 { bib; } else { draw; }", tree(inner(2, 3, 1, 2), leaf(4), leaf(5))},
		{"if field >= 4001 { bib; } else { draw; }", tree(leaf(5))},
		{"younger; wave; younger; older;", tree(leaf(2, 3, 1))},
		// Conditions that hold always, or never, and the numbers next to them.
		{"if field >= 4000 { bib; } else { draw; }", tree(inner(2, 4000, 1, 2), leaf(4), leaf(5))},
		{"if field >= 1 { bib; } else { draw; }", tree(inner(2, 1, 1, 2), leaf(4), leaf(5))},
		{"if field >= 0 { bib; } else { draw; }", tree(leaf(4))},
		{"if field >= 10000 { bib; }", tree(leaf())},
		{"if distance >= 7 { bib; } else { draw; }", tree(inner(1, 7, 1, 2), leaf(4), leaf(5))},
		{"if distance >= 8 { bib; } else { draw; }", tree(leaf(5))},
		{"if distance >= 1 { bib; } else { draw; }", tree(inner(1, 1, 1, 2), leaf(4), leaf(5))},
		{"if distance >= 0 { bib; } else { draw; }", tree(leaf(4))},
		{"if short >= 1 { bib; } else { draw; }", tree(inner(3, 1, 1, 2), leaf(4), leaf(5))},
		{"if short >= 2 { bib; } else { draw; }", tree(leaf(5))},
		{"if short >= 0 { bib; } else { draw; }", tree(leaf(4))},
		// Choices without an effect.
		{"if field >= 3 { bib; } else { bib; }", tree(leaf(4))},
		{"older; if field >= 3 { older; }", tree(leaf(1))},
		{"if field >= 3 { if field >= 2 { bib; } else { draw; } }", tree(inner(2, 3, 1, 2), leaf(4), leaf())},
		{"if short >= 1 and not short >= 1 { older; } bib;", tree(leaf(4))},
		// The order of the variables, whatever the order of the conditions.
		{"if short >= 1 { if field >= 3 { if distance >= 2 { bib; } } }", tree(inner(1, 2, 1, 4), inner(2, 3, 2, 4), inner(3, 1, 3, 4), leaf(4), leaf())},
		{"if short >= 1 and distance >= 2 { bib; } else { if field >= 3 { draw; } else { bib; } }", tree(inner(1, 2, 1, 5), inner(2, 3, 2, 3), inner(3, 1, 3, 4), leaf(4), leaf(5), inner(2, 3, 4, 3))},
		// Ranges of one variable, in which something comes back.
		{"if field >= 3 and not field >= 9 { bib; } else { draw; }", tree(inner(2, 3, 1, 2), inner(2, 9, 2, 3), leaf(5), leaf(4))},
		{"if distance >= 1 and not distance >= 2 or distance >= 3 and not distance >= 4 { bib; }", tree(inner(1, 1, 1, 4), inner(1, 2, 2, 5), inner(1, 3, 3, 4), inner(1, 4, 4, 5), leaf(), leaf(4))},
		// Two ranges that end alike.
		{"if distance >= 2 { if field >= 5 { bib; } else { draw; } } else { if field >= 3 { if field >= 5 { bib; } else { draw; } } }", tree(inner(1, 2, 1, 4), inner(2, 5, 2, 3), leaf(4), leaf(5), inner(2, 3, 1, 5), leaf())},
	} {
		got, e := trees.Compile(ties(t, x.rule))
		if e != api.OK || !equal(got, x.want) {
			t.Error(x.rule, got, e)
		}
	}
}

// The errors are those of typing.Ties, and come without a tree.
func TestCompileErrors(t *testing.T) {
	by := api.Step{Kind: api.ByS, By: api.BibB}
	choice := func(c api.Cond) []api.Step {
		return []api.Step{{Kind: api.IfS, Cond: c, Then: []api.Step{by}}}
	}
	deep := api.Cond{Kind: api.AtLeastC, Var: 2, N: 3}
	for range 17 {
		deep = api.Cond{Kind: api.NotC, Parts: []api.Cond{deep}}
	}
	var manyParts []api.Cond
	for n := range 16 {
		manyParts = append(manyParts, api.Cond{Kind: api.AtLeastC, Var: 2, N: n})
	}
	wide := api.Cond{Kind: api.OrC, Parts: manyParts}
	for i, x := range []struct {
		l    []api.Step
		want api.Errno
	}{
		{nil, api.ErrRange},
		{[]api.Step{}, api.ErrRange},
		{[]api.Step{{}}, api.ErrRange},
		{[]api.Step{{Kind: api.ByS, By: 6}}, api.ErrRange},
		{choice(api.Cond{}), api.ErrRange},
		{choice(api.Cond{Kind: api.AtLeastC, Var: 4, N: 3}), api.ErrRange},
		{choice(api.Cond{Kind: api.AtLeastC, Var: -1, N: 3}), api.ErrRange},
		{choice(api.Cond{Kind: api.AtLeastC, Var: 2, N: -1}), api.ErrRange},
		{choice(api.Cond{Kind: api.AtLeastC, Var: 2, N: 10001}), api.ErrRange},
		{choice(api.Cond{Kind: api.AndC}), api.ErrRange},
		{slices.Repeat([]api.Step{by}, 64), api.OK},
		{slices.Repeat([]api.Step{by}, 65), api.ErrLimit},
		{choice(deep.Parts[0]), api.OK},
		{choice(deep), api.ErrLimit},
		{slices.Repeat(choice(wide), 15), api.OK},
		{slices.Repeat(choice(wide), 16), api.ErrLimit},
	} {
		got, e := trees.Compile(x.l)
		if e != x.want || e != typing.Ties(x.l) || e != api.OK && got.Nodes != nil || e == api.OK && trees.Check(got) != api.OK {
			t.Error(i, got, e)
		}
	}
}

func TestCompileOfRandomRules(t *testing.T) {
	a := newAuthor(6)
	sizes := map[int]int{}
	for range 4000 {
		l := a.ties(1 + a.Intn(4))
		got, e := trees.Compile(l)
		want := chapterTree(ruleFields(), func(x api.Env) []int { return chapterDirect(l, x) })
		if e != api.OK || !equal(got, want) || chapterCheck(got) != api.OK {
			t.Fatal(l, got, want, e)
		}
		sizes[min(len(got.Nodes)/10, 3)]++
	}
	if sizes[1] < 300 || sizes[2] < 50 || sizes[3] < 5 {
		t.Error(sizes)
	}
}

// All numbers of starters, not only those at which something changes.
func TestCompileInAllEnvironments(t *testing.T) {
	a := newAuthor(7)
	for range 10 {
		l := a.ties(3)
		got, e := trees.Compile(l)
		want := chapterTree(allFields(), func(x api.Env) []int { return chapterDirect(l, x) })
		if e != api.OK || !equal(got, want) {
			t.Fatal(l, got, want, e)
		}
	}
}

// Trees are compiled from rules that make the same decisions.
func TestCompileLeadsBackToTrees(t *testing.T) {
	a := newAuthor(8)
	compiled := 0
	for range 3000 {
		x, _ := a.tree()
		l := rule(x)
		if typing.Ties(l) != api.OK {
			continue
		}
		compiled++
		if got, e := trees.Compile(l); e != api.OK || !equal(got, x) {
			t.Fatal(x, got, e)
		}
	}
	if compiled < 500 {
		t.Error(compiled)
	}
}

// stripes is a rule in whose tree a choice has to be made at every of many numbers of starters, in another way for each distance.
func stripes(t *testing.T) (l []api.Step, fields []int) {
	var text strings.Builder
	at := func(n int) string { return "field >= " + strconv.Itoa(n) }
	n := 0
	for i := range 7 {
		var parts []string
		for range 7 {
			parts = append(parts, at(n+1)+" and not "+at(n+3))
			fields = append(fields, n, n+1, n+3)
			n += 5 + i
		}
		text.WriteString("if (" + strings.Join(parts, " or ") + ") and distance >= " + strconv.Itoa(i+1) + " { " + []string{"older", "younger", "wave", "bib", "draw"}[i%5] + "; }\n")
	}
	text.WriteString("if short >= 1 { bib; } else { draw; } older;")
	slices.Sort(fields)
	return ties(t, text.String()), append(slices.Compact(fields), 4000)
}

func TestCompileOfManyRanges(t *testing.T) {
	l, fields := stripes(t)
	got, e := trees.Compile(l)
	want := chapterTree(fields, func(x api.Env) []int { return chapterDirect(l, x) })
	if e != api.OK || !equal(got, want) || trees.Check(got) != api.OK || len(got.Nodes) < 300 {
		t.Error(len(got.Nodes), len(want.Nodes), e)
	}
}

func TestCompileKeepsArguments(t *testing.T) {
	for seed := range int64(200) {
		l, again := newAuthor(seed).ties(3), newAuthor(seed).ties(3)
		got, _ := trees.Compile(l)
		kept := copied(got)
		later, _ := trees.Compile(l)
		if !equal(got, kept) || !equal(later, kept) || fmt.Sprint(l) != fmt.Sprint(again) {
			t.Fatal(l, again)
		}
	}
}
