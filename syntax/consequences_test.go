package syntax_test

import (
	"strings"
	"testing"

	"stopwatch/api"
	"stopwatch/lexis"
	"stopwatch/syntax"
)

// Problems with tokens, and the length of texts, come before everything else.

func TestProblemsWithTokens(t *testing.T) {
	for _, marked := range []string{"@%", " @$ %", "older; @% ;", "; @!", "field > 1 @$", "field > 1 and or @007 %", "course a { mats @-0 %", "course @_a {", strings.Repeat("not ", 20) + "@%", "older; # %\n@%", "course @\"a"} {
		for _, r := range readers() {
			expectMarked(t, r, marked, api.ErrToken)
		}
	}
	expectMarked(t, readers()[0], least+" @%", api.ErrToken)
	expectMarked(t, readers()[0], altered(t, "older;", "old@$er; %"), api.ErrToken)
}

func TestLengthOfTexts(t *testing.T) {
	for i, text := range []string{least, "field > 1", "bib;"} {
		r := readers()[i]
		for _, filler := range []string{" ", "\n", "#"} {
			full := text + strings.Repeat(filler, 65536-len(text))
			if _, at, e := r.read([]byte(full)); at != 0 || e != api.OK {
				t.Errorf("%s of 65536 bytes: got %d at %d", r.rule, e, at)
			}
			expectError(t, r, full+filler, 0, api.ErrLimit)
		}
		for _, c := range []string{"%", ";", "a", "(", "\x00"} {
			expectError(t, r, strings.Repeat(c, 65537), 0, api.ErrLimit)
		}
		expectError(t, r, strings.Repeat(" ", 65536), 65536, api.ErrSyntax)
	}
}

func TestNoText(t *testing.T) {
	for _, r := range readers() {
		if result, at, e := r.read(nil); result != nothing(r.rule) || at != 0 || e != api.ErrSyntax {
			t.Errorf("%s: got %s, %d, %d", r.rule, result, at, e)
		}
	}
}

// Large courses, which the limits of chapter 7 do not admit, are read nevertheless.
func TestLargeTexts(t *testing.T) {
	mats, parts := strings.Repeat("pass a;", 4600)+"end z;", strings.Repeat("z;", 16000)
	c, at, e := syntax.Course([]byte(strings.Replace(least, "{ } ties", "{"+mats+"} distance d slot {"+parts+"} ties", 1)))
	if e != api.OK || at != 0 || len(c.Mats) != 4601 || len(c.Distances[0].Route) != 16000 || c.Distances[0].Route[15999].Mat != 4600 {
		t.Error(at, e, len(c.Mats))
	}
	l, at, e := syntax.Steps([]byte(strings.Repeat("bib;", 16384)))
	if e != api.OK || at != 0 || len(l) != 16384 {
		t.Error(at, e, len(l))
	}
	x, at, e := syntax.Condition([]byte(strings.Repeat("field=1 or ", 5900) + "field>1"))
	if e != api.OK || at != 0 || len(x.Parts) != 5901 {
		t.Error(at, e, len(x.Parts))
	}
}

// P6.3

// aText returns the words of a random text of a rule, and of an alteration of it if asked for.
func aText(a *author, rule string, altered bool) []string {
	switch rule {
	case "course":
		a.course()
	case "condition":
		a.condition(3)
	default:
		a.steps(3)
	}
	if altered {
		return mutated(a, a.words)
	}
	return a.words
}

// expectSame tells whether two texts with the same tokens lead to the same, errors at the same token.
func expectSame(t *testing.T, r reader, one, other string) {
	t.Helper()
	x, y := tokensOf(t, one), tokensOf(t, other)
	wantResult, wantAt, want := r.read([]byte(one))
	result, at, e := r.read([]byte(other))
	place := func(l []api.Token, at int) int {
		for i, k := range l {
			if k.At == at {
				return i
			}
		}
		return -1
	}
	if len(x) != len(y) || result != wantResult || e != want || e == api.OK && at != wantAt || e != api.OK && place(y, at) != place(x, wantAt) {
		t.Errorf("%s of %q: got %d at %d; of %q %d at %d", r.rule, one, want, wantAt, other, e, at)
	}
}

func TestOnlyTokensCount(t *testing.T) {
	for seed := range int64(3000) {
		a := newAuthor(seed)
		r := readers()[seed%3]
		l := aText(a, r.rule, seed%2 == 0)
		text := a.spaced(l)
		expectSame(t, r, text, a.spaced(l))
		expectSame(t, r, text, strings.Join(l, "\n#;\n"))
		joined, e := lexis.Join(tokensOf(t, text))
		if e != api.OK {
			t.Fatal(text, e)
		}
		expectSame(t, r, text, string(joined))
	}
	expectSame(t, readers()[2], "older;bib;", " older # {\n;\tbib ; # }")
	expectSame(t, readers()[0], rich, strings.ReplaceAll(rich, "\n", " # course\r\n"))
}

// What comes after an error has no effect.
func TestTheTextUpToAnErrorDeterminesIt(t *testing.T) {
	errors := 0
	for seed := range int64(6000) {
		a := newAuthor(seed)
		r := readers()[seed%3]
		l := aText(a, r.rule, true)
		text := strings.Join(l, " ")
		_, at, e := r.read([]byte(text))
		if e == api.OK || at == len(text) {
			continue
		}
		errors++
		tokens := tokensOf(t, text)
		end := at
		for i, x := range tokens {
			if x.At == at {
				end = tokens[i+1].At // there is one, since the error is not at the end
			}
		}
		expectError(t, r, text[:end], at, e)
		for range 5 {
			rest := strings.Join(mutated(a, l), " ")
			expectError(t, r, text[:end]+" "+rest, at, e)
		}
	}
	if errors < 2000 {
		t.Error(errors)
	}
}

// holds evaluates a condition in the environment of the variables 1 to 3.
func holds(c api.Cond, env [4]int) bool {
	switch c.Kind {
	case api.AtLeastC:
		return env[c.Var] >= c.N
	case api.NotC:
		return !holds(c.Parts[0], env)
	}
	for _, x := range c.Parts {
		if holds(x, env) == (c.Kind == api.OrC) {
			return c.Kind == api.OrC
		}
	}
	return c.Kind == api.AndC
}

// `not` binds most tightly, `and` more tightly than `or`: texts without parentheses have the values that Go's operators give.
func TestBinding(t *testing.T) {
	for _, x := range []struct {
		text string
		want func(d, f, s bool) bool
	}{
		{"distance > 0 or field > 0 and short > 0", func(d, f, s bool) bool { return d || f && s }},
		{"distance > 0 and field > 0 or short > 0", func(d, f, s bool) bool { return d && f || s }},
		{"not distance > 0 and field > 0 or short > 0", func(d, f, s bool) bool { return !d && f || s }},
		{"not distance > 0 or not field > 0 and not short > 0", func(d, f, s bool) bool { return !d || !f && !s }},
		{"distance > 0 and not field = 0 or not short < 1 and field <= 0", func(d, f, s bool) bool { return d && f || s && !f }},
		{"(distance > 0 or field > 0) and short > 0", func(d, f, s bool) bool { return (d || f) && s }},
		{"not (distance > 0 or field > 0) and short > 0", func(d, f, s bool) bool { return !(d || f) && s }},
		{"not (distance > 0 and field > 0 or short > 0)", func(d, f, s bool) bool { return !(d && f || s) }},
	} {
		c, _, e := syntax.Condition([]byte(x.text))
		for i := range 8 {
			env := [4]int{0, i & 1, i >> 1 & 1, i >> 2}
			if e != api.OK || holds(c, env) != x.want(env[1] == 1, env[2] == 1, env[3] == 1) {
				t.Errorf("%q, %v: got %t, %d", x.text, env, holds(c, env), e)
			}
		}
	}
}
