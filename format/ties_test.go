package format_test

import (
	"math"
	"reflect"
	"slices"
	"strings"
	"testing"

	"stopwatch/api"
	"stopwatch/format"
	"stopwatch/typing"
)

// P8.2

func expectCond(t *testing.T, c api.Cond, want string) {
	t.Helper()
	if s, e := format.Cond(c); e != api.OK || s != want {
		t.Errorf("got %d and %q, want %q", e, s, want)
	}
}

func expectNoCond(t *testing.T, c api.Cond, want api.Errno) {
	t.Helper()
	if s, e := format.Cond(c); e != want || s != "" {
		t.Errorf("%+v: got %d and %q, want %d", c, e, s, want)
	}
}

func expectSteps(t *testing.T, l []api.Step, want string) {
	t.Helper()
	if s, e := format.Steps(l); e != api.OK || s != want {
		t.Errorf("got %d and %q, want %q", e, s, want)
	}
}

func expectNoSteps(t *testing.T, l []api.Step, want api.Errno) {
	t.Helper()
	if s, e := format.Steps(l); e != want || s != "" {
		t.Errorf("%+v: got %d and %q, want %d", l, e, s, want)
	}
}

// TestExamples has the chapter's examples of conditions and steps.
func TestExamples(t *testing.T) {
	one, two, three := atLeast(api.ShortV, 1), atLeast(api.DistanceV, 2), atLeast(api.FieldV, 3)
	expectCond(t, or(not(and(one, three)), two), "not (short >= 1 and field >= 3) or distance >= 2")
	expectCond(t, one, "short >= 1")
	expectCond(t, and(one), "short >= 1")
	expectSteps(t, []api.Step{by(api.OlderB), ifThen(one, by(api.BibB))}, "older; if short >= 1 { bib; }")
}

func TestCond(t *testing.T) {
	a, b, c, d := atLeast(api.DistanceV, 2), atLeast(api.FieldV, 10000), atLeast(api.ShortV, 1), atLeast(api.FieldV, 0)
	for want, x := range map[string]api.Cond{
		"distance >= 2":                    a,
		"field >= 10000":                   b,
		"short >= 1":                       c,
		"field >= 0":                       d,
		"not short >= 1":                   not(c),
		"not not not short >= 1":           not(not(not(c))),
		"distance >= 2 and field >= 10000": and(a, b),
		"distance >= 2 or field >= 10000 or short >= 1":                                              or(a, b, c),
		"not (short >= 1 and field >= 0) or distance >= 2":                                           or(not(and(c, d)), a),
		"not (short >= 1 or field >= 0) and distance >= 2":                                           and(not(or(c, d)), a),
		"distance >= 2 and not short >= 1 and field >= 0":                                            and(a, not(c), d),
		"short >= 1 or field >= 0 and distance >= 2":                                                 or(c, and(d, a)),
		"short >= 1 and field >= 0 or distance >= 2":                                                 or(and(c, d), a),
		"short >= 1 and (field >= 0 or distance >= 2)":                                               and(c, or(d, a)),
		"short >= 1 and (field >= 0 and distance >= 2)":                                              and(c, and(d, a)),
		"(short >= 1 and field >= 0) and distance >= 2":                                              and(and(c, d), a),
		"short >= 1 or (field >= 0 or distance >= 2)":                                                or(c, or(d, a)),
		"(short >= 1 or field >= 0) or distance >= 2":                                                or(or(c, d), a),
		"short >= 1 and field >= 0 or short >= 1 and field >= 0":                                     or(and(c, d), and(c, d)),
		"short >= 1 or ((field >= 0 or distance >= 2) and (short >= 1 or short >= 1) or short >= 1)": or(c, or(and(or(d, a), or(c, c)), c)),
	} {
		expectCond(t, x, want)
	}
}

func TestCondWithOnePart(t *testing.T) {
	a, b, c := atLeast(api.FieldV, 1), atLeast(api.FieldV, 2), atLeast(api.FieldV, 3)
	for i, x := range []struct {
		c    api.Cond
		want string
	}{
		{and(a), "field >= 1"},
		{or(a), "field >= 1"},
		{or(and(or(and(a)))), "field >= 1"},
		{and(not(a)), "not field >= 1"},
		{not(or(a)), "not field >= 1"},
		{not(and(not(or(a)))), "not not field >= 1"},
		{and(and(a), or(b)), "field >= 1 and field >= 2"},
		{or(and(a), or(b)), "field >= 1 or field >= 2"},
		{and(and(a, b)), "field >= 1 and field >= 2"},
		{and(or(a, b)), "field >= 1 or field >= 2"},
		{or(and(a, b)), "field >= 1 and field >= 2"},
		{or(or(a, b)), "field >= 1 or field >= 2"},
		{not(and(or(a, b))), "not (field >= 1 or field >= 2)"},
		{not(or(and(a, b))), "not (field >= 1 and field >= 2)"},
		{not(or(or(and(not(a))))), "not not field >= 1"},
		{and(or(and(a, b)), c), "(field >= 1 and field >= 2) and field >= 3"},
		{and(and(or(a, b)), c), "(field >= 1 or field >= 2) and field >= 3"},
		{or(or(and(a, b)), c), "field >= 1 and field >= 2 or field >= 3"},
		{or(c, and(or(a, b))), "field >= 3 or (field >= 1 or field >= 2)"},
		{or(c, and(and(or(or(a, b))))), "field >= 3 or (field >= 1 or field >= 2)"},
		{and(c, or(not(or(a, b)))), "field >= 3 and not (field >= 1 or field >= 2)"},
	} {
		if s, e := format.Cond(x.c); e != api.OK || s != x.want {
			t.Errorf("%d: got %d and %q, want %q", i, e, s, x.want)
		}
	}
}

// conditions returns all conditions of at most this depth whose AndC and OrC have at most two parts, and whose AtLeastC are the same.
func conditions(depth int) []api.Cond {
	l := []api.Cond{atLeast(api.ShortV, 1)}
	if depth == 0 {
		return l
	}
	parts := conditions(depth - 1)
	for _, x := range parts {
		l = append(l, not(x), and(x), or(x))
		for _, y := range parts {
			l = append(l, and(x, y), or(x, y))
		}
	}
	return l
}

// unlike returns a condition like c in which the numbers of all AtLeastC are different.
func unlike(c api.Cond, next *int) api.Cond {
	if c.Kind == api.AtLeastC {
		*next++
		return atLeast(1+*next%3, *next)
	}
	l := []api.Cond{}
	for _, p := range c.Parts {
		l = append(l, unlike(p, next))
	}
	c.Parts = l
	return c
}

func TestSmallConditions(t *testing.T) {
	l := conditions(3)
	if len(l) != 16836 {
		t.Error(len(l))
	}
	for _, c := range l {
		c = unlike(c, new(int))
		expectCond(t, c, chapterCond(c))
	}
}

// expectByTheChapter compares random conditions or steps with the chapter's text of them.
func expectByTheChapter[T any](t *testing.T, invent func(a author) T, validate func(x T) api.Errno, print func(x T) (string, api.Errno), text func(x T) string) {
	t.Helper()
	const many = 5000
	valid := 0
	for seed := range int64(many) {
		x := invent(newAuthor(seed))
		want, wantError := "", validate(x)
		if wantError == api.OK {
			valid++
			want = text(x)
		}
		if s, e := print(x); s != want || e != wantError {
			t.Errorf("%+v: got %d and %q, want %d and %q", x, e, s, wantError, want)
		}
		if same := invent(newAuthor(seed)); !reflect.DeepEqual(x, same) {
			t.Errorf("%+v was %+v", x, same)
		}
	}
	if valid < many*8/10 || valid == many {
		t.Error(valid)
	}
}

func TestConditionsByTheChapter(t *testing.T) {
	expectByTheChapter(t, func(a author) api.Cond { return a.condition(7) }, typing.Cond, format.Cond, chapterCond)
}

func TestStepsByTheChapter(t *testing.T) {
	expectByTheChapter(t, func(a author) []api.Step { return a.steps(4) }, typing.Ties, format.Steps, chapterSteps)
}

// nested returns x with a number of layers around it.
func nested[T any](layers int, x T, layer func(x T) T) T {
	for range layers {
		x = layer(x)
	}
	return x
}

func TestLimitsOfCond(t *testing.T) {
	one := atLeast(api.ShortV, 1)
	text := "short >= 1"
	joined := func(n int, word string) string { return strings.Repeat(text+word, n-1) + text }
	alone := func(c api.Cond) api.Cond { return and(c) }
	beside := func(c api.Cond) api.Cond { return or(one, c) }
	expectCond(t, nested(16, one, not), strings.Repeat("not ", 16)+text)
	expectCond(t, nested(16, one, alone), text)
	expectCond(t, nested(16, one, beside), strings.Repeat(text+" or (", 15)+text+" or "+text+strings.Repeat(")", 15))
	expectCond(t, and(slices.Repeat([]api.Cond{one}, 16)...), joined(16, " and "))
	expectCond(t, or(slices.Repeat([]api.Cond{one}, 16)...), joined(16, " or "))
	full := slices.Repeat([]api.Cond{and(slices.Repeat([]api.Cond{one}, 16)...)}, 15) // of 255 conditions
	expectCond(t, or(full...), strings.Repeat(joined(16, " and ")+" or ", 14)+joined(16, " and "))
	for _, c := range []api.Cond{nested(17, one, not), nested(17, one, alone), nested(17, one, beside), or(append(full, one)...)} {
		expectNoCond(t, c, api.ErrLimit)
	}
}

func TestConditionsThatAreNotValid(t *testing.T) {
	one := atLeast(api.ShortV, 1)
	for _, c := range []api.Cond{
		{},
		and(), or(), {Kind: api.NotC}, {Kind: api.NotC, Parts: []api.Cond{one, one}},
		atLeast(0, 1), atLeast(4, 1), atLeast(-1, 1), atLeast(math.MaxInt, 1),
		atLeast(1, -1), atLeast(1, 10001), atLeast(1, math.MinInt),
		{Kind: 5, Parts: []api.Cond{one}}, {Kind: -1, Parts: []api.Cond{one}}, {Parts: []api.Cond{one}},
		{Kind: api.AtLeastC, Var: 1, Parts: []api.Cond{one}}, {Kind: api.AndC, Var: 1, Parts: []api.Cond{one}}, {Kind: api.OrC, N: 1, Parts: []api.Cond{one}},
		and(one, and()), not(or(one, not(atLeast(4, 0)))),
		and(slices.Repeat([]api.Cond{one}, 17)...),
	} {
		expectNoCond(t, c, api.ErrRange)
	}
}

func TestSteps(t *testing.T) {
	one, two := atLeast(api.ShortV, 1), atLeast(api.FieldV, 2)
	older, younger, wave, bib, draw := by(api.OlderB), by(api.YoungerB), by(api.WaveB), by(api.BibB), by(api.DrawB)
	for want, l := range map[string][]api.Step{
		"older;":                                              {older},
		"older; younger; wave; bib; draw;":                    {older, younger, wave, bib, draw},
		"bib; bib;":                                           {bib, bib},
		"older; if short >= 1 { bib; }":                       {older, ifThen(one, bib)},
		"if short >= 1 { bib; } older;":                       {ifThen(one, bib), older},
		"if short >= 1 { bib; } else { draw; }":               {otherwise(ifThen(one, bib), draw)},
		"if short >= 1 and field >= 2 { bib; }":               {ifThen(and(one, two), bib)},
		"if not (short >= 1 or field >= 2) { bib; younger; }": {ifThen(not(or(one, two)), bib, younger)},
		"if short >= 1 { bib; } else { draw; wave; } if field >= 2 { older; } younger;": {
			otherwise(ifThen(one, bib), draw, wave), ifThen(two, older), younger,
		},
		"if short >= 1 { if field >= 2 { bib; } else { draw; } }":    {ifThen(one, otherwise(ifThen(two, bib), draw))},
		"if short >= 1 { if field >= 2 { bib; } } else { draw; }":    {otherwise(ifThen(one, ifThen(two, bib)), draw)},
		"if short >= 1 { bib; } else { if field >= 2 { older; } }":   {otherwise(ifThen(one, bib), ifThen(two, older))},
		"if short >= 1 or field >= 2 { wave; } else { bib; older; }": {otherwise(ifThen(or(and(one), or(two)), wave), bib, older)},
	} {
		expectSteps(t, l, want)
	}
}

func TestLimitsOfSteps(t *testing.T) {
	one, bib := atLeast(api.ShortV, 1), by(api.BibB)
	inThen := func(s api.Step) api.Step { return ifThen(one, s) }
	inElse := func(s api.Step) api.Step { return otherwise(ifThen(one, bib), s) }
	expectSteps(t, slices.Repeat([]api.Step{bib}, 64), strings.Repeat("bib; ", 63)+"bib;")
	expectSteps(t, []api.Step{nested(16, bib, inThen)}, strings.Repeat("if short >= 1 { ", 16)+"bib;"+strings.Repeat(" }", 16))
	expectSteps(t, []api.Step{nested(16, bib, inElse)}, strings.Repeat("if short >= 1 { bib; } else { ", 16)+"bib;"+strings.Repeat(" }", 16))
	expectNoSteps(t, slices.Repeat([]api.Step{bib}, 65), api.ErrLimit)
	expectNoSteps(t, []api.Step{nested(17, bib, inThen)}, api.ErrLimit)
	expectNoSteps(t, []api.Step{nested(17, bib, inElse)}, api.ErrLimit)
}

func TestStepsThatAreNotValid(t *testing.T) {
	one, bib := atLeast(api.ShortV, 1), by(api.BibB)
	for _, l := range [][]api.Step{
		nil, {}, {{}}, {by(0)}, {by(6)}, {by(-1)}, {by(math.MaxInt)}, {bib, by(6)},
		{ifThen(one)}, {ifThen(api.Cond{}, bib)}, {ifThen(and(), bib)}, {ifThen(one, by(6))}, {otherwise(ifThen(one, bib), by(0))},
		{{Kind: api.ByS, By: 1, Cond: one}}, {{Kind: api.ByS, By: 1, Then: []api.Step{bib}}}, {{Kind: api.IfS, By: 1, Cond: one, Then: []api.Step{bib}}},
		{{Kind: 3, By: 1}}, {{By: 1}},
	} {
		expectNoSteps(t, l, api.ErrRange)
	}
}
