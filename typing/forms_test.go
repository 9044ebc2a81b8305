package typing_test

import (
	"fmt"
	"math"
	"slices"
	"testing"

	"stopwatch/api"
	"stopwatch/typing"
)

// P7.1

func atLeast(v, n int) api.Cond { return api.Cond{Kind: api.AtLeastC, Var: v, N: n} }

func and(l ...api.Cond) api.Cond { return api.Cond{Kind: api.AndC, Parts: l} }

func or(l ...api.Cond) api.Cond { return api.Cond{Kind: api.OrC, Parts: l} }

func not(c api.Cond) api.Cond { return api.Cond{Kind: api.NotC, Parts: []api.Cond{c}} }

func by(n int) api.Step { return api.Step{Kind: api.ByS, By: n} }

func ifThen(c api.Cond, then ...api.Step) api.Step {
	return api.Step{Kind: api.IfS, Cond: c, Then: then}
}

// nested returns x with a number of layers around it.
func nested[T any](layers int, x T, layer func(x T) T) T {
	for range layers {
		x = layer(x)
	}
	return x
}

// short is what a test says of a value.
func short(x any) string {
	s := fmt.Sprintf("%+v", x)
	if len(s) > 300 {
		return s[:300] + " .."
	}
	return s
}

// expectCond tells whether a condition leads to an error, in Holds before that of the environment. (ErrArg is less than the errors of conditions and steps.)
func expectCond(t *testing.T, c api.Cond, want api.Errno) {
	t.Helper()
	if e := typing.Cond(c); e != want {
		t.Errorf("%s: got %d, want %d", short(c), e, want)
	}
	if ok, e := typing.Holds(c, api.Env{}); e != want || ok && e != api.OK {
		t.Errorf("Holds(%s): got %t, %d, want %d", short(c), ok, e, want)
	}
	if ok, e := typing.Holds(c, api.Env{Short: 2}); ok || e != max(want, api.ErrArg) {
		t.Errorf("Holds(%s) in no environment: got %t, %d", short(c), ok, e)
	}
}

func expectTies(t *testing.T, l []api.Step, want api.Errno) {
	t.Helper()
	if e := typing.Ties(l); e != want {
		t.Errorf("%s: got %d, want %d", short(l), e, want)
	}
	if by, e := typing.Direct(l, api.Env{}); e != want || len(by) > 0 && e != api.OK {
		t.Errorf("Direct(%s): got %v, %d, want %d", short(l), by, e, want)
	}
	if by, e := typing.Direct(l, api.Env{Field: -1}); len(by) > 0 || e != max(want, api.ErrArg) {
		t.Errorf("Direct(%s) in no environment: got %v, %d", short(l), by, e)
	}
}

func TestCond(t *testing.T) {
	one := atLeast(api.ShortV, 1)
	for _, c := range []api.Cond{
		atLeast(1, 0), atLeast(2, 0), atLeast(3, 0), atLeast(1, 10000), atLeast(2, 10000), atLeast(3, 10000), atLeast(2, 4001),
		{Kind: api.AtLeastC, Var: 1, Parts: []api.Cond{}},
		not(one), and(one), or(one), and(one, one), or(one, one), not(not(one)), and(or(and(or(one)))),
		and(slices.Repeat([]api.Cond{one}, 16)...), or(slices.Repeat([]api.Cond{one}, 16)...),
		or(and(one, not(one)), not(or(one, and(one))), one),
	} {
		expectCond(t, c, api.OK)
	}
	for _, c := range []api.Cond{
		{},
		atLeast(0, 0), atLeast(4, 0), atLeast(-1, 0), atLeast(math.MinInt, 1), atLeast(math.MaxInt, 1),
		atLeast(1, -1), atLeast(1, 10001), atLeast(2, 10001), atLeast(3, -1), atLeast(1, math.MinInt), atLeast(1, math.MaxInt),
		{Kind: 5, Var: 1}, {Kind: -1, Var: 1}, {Kind: 0, Var: 1}, {Kind: math.MaxInt, Parts: []api.Cond{one}}, {Kind: math.MinInt}, {Kind: 5, Parts: []api.Cond{one}}, {Parts: []api.Cond{one}},
		{Kind: api.AtLeastC, Var: 1, Parts: []api.Cond{one}},
		and(), or(), {Kind: api.NotC}, {Kind: api.NotC, Parts: []api.Cond{one, one}}, {Kind: api.NotC, Var: 1, N: 1},
		and(slices.Repeat([]api.Cond{one}, 17)...), or(slices.Repeat([]api.Cond{one}, 17)...),
		{Kind: api.AndC, Var: 1, Parts: []api.Cond{one}}, {Kind: api.OrC, Var: 1, Parts: []api.Cond{one}}, {Kind: api.NotC, Var: 1, Parts: []api.Cond{one}},
		{Kind: api.AndC, N: 1, Parts: []api.Cond{one}}, {Kind: api.OrC, N: 1, Parts: []api.Cond{one}}, {Kind: api.NotC, N: 1, Parts: []api.Cond{one}},
		{Kind: api.AndC, Var: 1, N: -1, Parts: []api.Cond{one}},
	} {
		expectCond(t, c, api.ErrRange)
		for _, outer := range []api.Cond{not(c), and(c), or(c), and(one, c), or(one, c, one), not(and(one, or(c, one)))} {
			expectCond(t, outer, api.ErrRange)
		}
	}
}

// All small conditions.
func TestSmallConditions(t *testing.T) {
	one, wrong := atLeast(api.FieldV, 3), atLeast(api.FieldV, -3)
	lists := [][]api.Cond{nil, {one}, {wrong}, {one, one}, {one, wrong}, {wrong, one}, {not(one)}, {not(wrong)}, slices.Repeat([]api.Cond{one}, 16), slices.Repeat([]api.Cond{one}, 17)}
	counts := map[api.Errno]int{}
	for kind := -1; kind <= 6; kind++ {
		for variable := -1; variable <= 4; variable++ {
			for _, n := range []int{-1, 0, 1, 9999, 10000, 10001} {
				for _, l := range lists {
					c := api.Cond{Kind: kind, Var: variable, N: n, Parts: l}
					want := chapterCond(c)
					expectCond(t, c, want)
					counts[want]++
				}
			}
		}
	}
	if counts[api.OK] != 3*4+4+4+2 || counts[api.ErrLimit] > 0 {
		t.Error(counts)
	}
}

func TestLimitsOfConditions(t *testing.T) {
	one := atLeast(api.ShortV, 1)
	wide := func(many int) api.Cond { // many conditions
		c := and()
		for many > 1 {
			size := min(many-1, 17)
			many -= size
			part := one
			if size > 1 {
				part = or(slices.Repeat([]api.Cond{one}, size-1)...)
			}
			c.Parts = append(c.Parts, part)
		}
		return c
	}
	if n := len(chapterConditions(wide(256))); n != 256 || len(wide(257).Parts) != 16 {
		t.Fatal(n)
	}
	expectCond(t, wide(256), api.OK)
	expectCond(t, wide(257), api.ErrLimit)
	expectCond(t, not(wide(256)), api.ErrLimit)
	for _, x := range []api.Cond{{}, one, atLeast(9, 9)} {
		// The number counts before the kinds, whatever these are.
		for _, kind := range []int{api.AtLeastC, api.AndC, api.OrC, api.NotC, 0, 9} {
			expectCond(t, api.Cond{Kind: kind, Parts: slices.Repeat([]api.Cond{x}, 255)}, api.ErrRange)
			expectCond(t, api.Cond{Kind: kind, Parts: slices.Repeat([]api.Cond{x}, 256)}, api.ErrLimit)
			expectCond(t, api.Cond{Kind: kind, Parts: slices.Repeat([]api.Cond{x}, 100000)}, api.ErrLimit)
		}
	}
	for _, layer := range []func(c api.Cond) api.Cond{
		not,
		func(c api.Cond) api.Cond { return and(c) },
		func(c api.Cond) api.Cond { return or(c, one) },
		func(c api.Cond) api.Cond { return and(one, c, one) },
		func(c api.Cond) api.Cond { return or(c, one, one, one) },
	} {
		expectCond(t, nested(16, one, layer), api.OK)
		expectCond(t, nested(15, one, layer), api.OK)
		expectCond(t, nested(17, one, layer), api.ErrLimit)
		expectCond(t, nested(16, atLeast(0, 0), layer), api.ErrRange)
		expectCond(t, nested(17, atLeast(0, 0), layer), api.ErrLimit)
	}
	odd := func(c api.Cond) api.Cond { return api.Cond{Kind: api.AtLeastC, Var: 1, Parts: []api.Cond{c}} }
	expectCond(t, nested(16, one, odd), api.ErrRange)
	expectCond(t, nested(17, one, odd), api.ErrLimit)
	expectCond(t, nested(60000, one, not), api.ErrLimit)
	// 16 conditions at each of 5 depths share their memory.
	expectCond(t, nested(5, one, func(c api.Cond) api.Cond { return and(slices.Repeat([]api.Cond{c}, 16)...) }), api.ErrLimit)
}

func TestTies(t *testing.T) {
	one, younger := atLeast(api.ShortV, 1), by(api.YoungerB)
	for _, text := range []string{
		"older;", "older; younger; wave; bib; draw;", "draw; draw;", "if short >= 1 { bib; }", "if short >= 1 { bib; } else { draw; }",
		"older; if short >= 1 and field > 3 { bib; if distance = 7 { draw; } else { draw; wave; } } else { if not field < 5 { wave; } } bib;",
	} {
		expectTies(t, steps(t, text), api.OK)
	}
	expectTies(t, []api.Step{{Kind: api.ByS, By: 1, Cond: api.Cond{Parts: []api.Cond{}}, Then: []api.Step{}, Else: []api.Step{}}}, api.OK)
	expectTies(t, []api.Step{{Kind: api.IfS, Cond: one, Then: []api.Step{younger}, Else: []api.Step{}}}, api.OK)
	expectTies(t, nil, api.ErrRange)
	expectTies(t, []api.Step{}, api.ErrRange)
	for _, s := range []api.Step{
		{},
		by(0), by(6), by(-1), by(math.MinInt), by(math.MaxInt),
		{Kind: 0, By: 1}, {Kind: 3, By: 1}, {Kind: -1, By: 1}, {Kind: math.MaxInt}, {Kind: 3, Cond: one, Then: []api.Step{younger}}, {Cond: one, Then: []api.Step{younger}},
		{Kind: api.ByS, By: 1, Cond: one}, {Kind: api.ByS, By: 1, Cond: api.Cond{Kind: 7}}, {Kind: api.ByS, By: 1, Cond: api.Cond{Var: 1}}, {Kind: api.ByS, By: 1, Cond: api.Cond{N: 1}}, {Kind: api.ByS, By: 1, Cond: api.Cond{Parts: []api.Cond{one}}}, {Kind: api.ByS, By: 1, Cond: api.Cond{Parts: []api.Cond{{}}}},
		{Kind: api.ByS, By: 1, Then: []api.Step{younger}}, {Kind: api.ByS, By: 1, Else: []api.Step{younger}}, {Kind: api.ByS, Cond: one, Then: []api.Step{younger}},
		ifThen(one), {Kind: api.IfS, Cond: one, Else: []api.Step{younger}}, ifThen(api.Cond{}, younger), ifThen(atLeast(4, 1), younger), ifThen(and(), younger), ifThen(not(atLeast(1, 10001)), younger),
		{Kind: api.IfS, By: 1, Cond: one, Then: []api.Step{younger}}, {Kind: api.IfS, By: -1, Cond: one, Then: []api.Step{younger}}, {Kind: api.IfS, By: 2, Then: []api.Step{younger}},
	} {
		for _, l := range [][]api.Step{
			{s}, {s, younger}, {younger, s}, {younger, s, younger},
			{ifThen(one, s)}, {ifThen(one, younger, s, younger)}, {younger, {Kind: api.IfS, Cond: one, Then: []api.Step{younger}, Else: []api.Step{younger, s}}},
			{ifThen(one, api.Step{Kind: api.IfS, Cond: one, Then: []api.Step{younger}, Else: []api.Step{s}})},
		} {
			expectTies(t, l, api.ErrRange)
		}
	}
}

func TestLimitsOfTies(t *testing.T) {
	one, bib := atLeast(api.ShortV, 1), by(api.BibB)
	many := func(n int) []api.Step { return slices.Repeat([]api.Step{bib}, n) }
	for n, want := range map[int]api.Errno{63: api.OK, 64: api.OK, 65: api.ErrLimit, 100000: api.ErrLimit} {
		expectTies(t, many(n), want)
		expectTies(t, append(many(n-20), ifThen(one, many(19)...)), want)
		expectTies(t, append([]api.Step{{Kind: api.IfS, Cond: one, Then: many(3), Else: many(n - 8)}}, many(4)...), want)
		expectTies(t, []api.Step{ifThen(one, ifThen(one, many(n-2)...))}, want)
		wrong := map[bool]api.Errno{true: api.ErrRange, false: api.ErrLimit}[want == api.OK]
		expectTies(t, make([]api.Step, n), wrong)
		expectTies(t, []api.Step{{Kind: 7, Else: many(n - 1)}}, wrong)
		expectTies(t, []api.Step{{Kind: api.ByS, By: 9, Then: many(n - 2), Else: many(1)}}, wrong)
	}
	for _, layer := range []func(l []api.Step) []api.Step{
		func(l []api.Step) []api.Step { return []api.Step{ifThen(one, l...)} },
		func(l []api.Step) []api.Step { return []api.Step{{Kind: api.IfS, Cond: one, Then: many(1), Else: l}} },
		func(l []api.Step) []api.Step {
			return []api.Step{bib, {Kind: api.IfS, Cond: one, Then: l, Else: many(1)}}
		},
	} {
		expectTies(t, nested(16, many(1), layer), api.OK)
		expectTies(t, nested(17, many(1), layer), api.ErrLimit)
		expectTies(t, nested(16, []api.Step{by(6)}, layer), api.ErrRange)
		expectTies(t, nested(17, []api.Step{by(6)}, layer), api.ErrLimit)
		expectTies(t, nested(60000, many(1), layer), api.ErrLimit)
	}
	for _, layer := range []func(l []api.Step) []api.Step{
		func(l []api.Step) []api.Step { return []api.Step{{Kind: api.ByS, By: 1, Then: l}} },
		func(l []api.Step) []api.Step { return []api.Step{{Else: l}} },
	} {
		expectTies(t, nested(16, many(1), layer), api.ErrRange)
		expectTies(t, nested(17, many(1), layer), api.ErrLimit)
	}
}

func TestLimitsOfConditionsOfTies(t *testing.T) {
	one, bib := atLeast(api.ShortV, 1), by(api.BibB)
	deepest, tooDeep := nested(16, one, not), nested(17, one, not)
	expectTies(t, []api.Step{ifThen(deepest, bib), bib}, api.OK)
	expectTies(t, nested(16, []api.Step{bib}, func(l []api.Step) []api.Step { return []api.Step{ifThen(nested(14, one, not), l...)} }), api.OK)
	for _, s := range []api.Step{
		ifThen(tooDeep, bib),
		ifThen(tooDeep),
		{Kind: api.ByS, By: 1, Cond: tooDeep},
		{Cond: tooDeep},
		{Kind: api.ByS, By: 1, Cond: api.Cond{Parts: []api.Cond{deepest}}},
		ifThen(api.Cond{Parts: []api.Cond{deepest}}, bib),
		ifThen(one, bib, ifThen(tooDeep, bib)),
		{Kind: api.IfS, Cond: one, Then: []api.Step{bib}, Else: []api.Step{ifThen(tooDeep, bib)}},
		{Kind: api.ByS, By: 1, Then: []api.Step{{Kind: api.ByS, By: 1, Cond: tooDeep}}},
	} {
		expectTies(t, []api.Step{s}, api.ErrLimit)
		expectTies(t, []api.Step{bib, s, by(9)}, api.ErrLimit)
	}
	of := func(n int) api.Cond { return and(slices.Repeat([]api.Cond{one}, n-1)...) } // with n conditions
	for last, want := range map[int]api.Errno{5: api.OK, 6: api.OK, 7: api.ErrLimit} {
		wrong := map[bool]api.Errno{true: api.ErrRange, false: api.ErrLimit}[want == api.OK]
		ten := ifThen(of(10), bib)
		tens := slices.Repeat([]api.Step{ten}, 25)
		expectTies(t, append(tens, ifThen(of(last), bib)), want)
		expectTies(t, append(tens, ifThen(of(last), bib), by(0)), wrong)
		expectTies(t, append(tens, api.Step{Kind: api.ByS, By: 1, Cond: of(last)}), wrong)
		expectTies(t, append(tens, api.Step{Kind: 3, Cond: of(last)}), wrong)
		for _, c := range []api.Cond{{Kind: 9}, {Var: 1}, {N: -1}} { // these count, too
			expectTies(t, append(tens, ifThen(of(last-1), bib), api.Step{Kind: api.ByS, By: 1, Cond: c}), wrong)
		}
		tree := api.Step{Kind: api.IfS, Cond: of(10), Then: []api.Step{ten, ten}, Else: []api.Step{ten, ten}}
		expectTies(t, append(slices.Repeat([]api.Step{tree}, 5), ifThen(of(last), bib)), want)
		outer := api.Step{Kind: api.IfS, Cond: of(last), Then: []api.Step{bib}, Else: []api.Step{tree}}
		expectTies(t, append(slices.Repeat([]api.Step{tree}, 4), outer), want)
		expectTies(t, []api.Step{ifThen(and(slices.Repeat([]api.Cond{of(15)}, 16)...), ifThen(of(9+last), bib))}, want)
	}
	expectTies(t, []api.Step{ifThen(and(slices.Repeat([]api.Cond{or()}, 256)...), bib)}, api.ErrLimit)
	expectTies(t, []api.Step{ifThen(and(slices.Repeat([]api.Cond{or()}, 255)...), bib)}, api.ErrRange)
}

func TestEnv(t *testing.T) {
	type number struct {
		n  int
		ok bool
	}
	numbers := func(greatest int) []number {
		return []number{{0, true}, {1, true}, {greatest, true}, {-1, false}, {greatest + 1, false}, {math.MinInt, false}, {math.MaxInt, false}}
	}
	for _, d := range append(numbers(7), number{3, true}) {
		for _, f := range append(numbers(4000), number{100, true}) {
			for _, s := range numbers(1) {
				x, want := api.Env{Distance: d.n, Field: f.n, Short: s.n}, api.ErrArg
				if d.ok && f.ok && s.ok {
					want = api.OK
				}
				if e := typing.Env(x); e != want {
					t.Errorf("%+v: got %d", x, e)
				}
				if _, e := typing.Holds(atLeast(1, 0), x); e != want {
					t.Errorf("Holds in %+v: got %d", x, e)
				}
				if _, e := typing.Direct([]api.Step{by(1)}, x); e != want {
					t.Errorf("Direct in %+v: got %d", x, e)
				}
			}
		}
	}
}

func TestRandomForms(t *testing.T) {
	counts := map[api.Errno]int{}
	for seed := range int64(10000) {
		a := newAuthor(seed)
		if seed%2 == 0 {
			c, _ := a.cond(4)
			expectCond(t, c, chapterCond(c))
			c = altered(a, c)
			expectCond(t, c, chapterCond(c))
			counts[chapterCond(c)]++
			continue
		}
		l := a.steps(3)
		expectTies(t, l, chapterTies(l))
		l = altered(a, l)
		expectTies(t, l, chapterTies(l))
		counts[chapterTies(l)]++
	}
	if counts[api.OK] < 1000 || counts[api.ErrRange] < 1000 || counts[api.ErrLimit] < 10 {
		t.Error(counts)
	}
}

// P7.2

func TestHolds(t *testing.T) {
	values := func(greatest int) []int { return []int{0, 1, 2, 3, 6, greatest - 1, greatest} }
	for _, n := range []int{0, 1, 2, 3, 7, 8, 3999, 4000, 4001, 10000} {
		for _, v := range values(7) {
			expectHolds(t, atLeast(api.DistanceV, n), api.Env{Distance: v, Field: 4000 - v, Short: 1}, v >= n)
		}
		for _, v := range values(4000) {
			expectHolds(t, atLeast(api.FieldV, n), api.Env{Distance: 7, Field: v, Short: 1}, v >= n)
		}
		for v := range 2 {
			expectHolds(t, atLeast(api.ShortV, n), api.Env{Distance: 7, Field: 4000, Short: v}, v >= n)
		}
	}
	for _, x := range []struct {
		text string
		want func(d, f, s bool) bool
	}{
		{"distance > 0", func(d, f, s bool) bool { return d }},
		{"field > 0", func(d, f, s bool) bool { return f }},
		{"short > 0", func(d, f, s bool) bool { return s }},
		{"not field > 0", func(d, f, s bool) bool { return !f }},
		{"distance > 0 and field > 0 and short > 0", func(d, f, s bool) bool { return d && f && s }},
		{"distance > 0 or field > 0 or short > 0", func(d, f, s bool) bool { return d || f || s }},
		{"distance > 0 and not (field > 0 or short > 0)", func(d, f, s bool) bool { return d && !f && !s }},
		{"not (distance > 0 and not field > 0) or short = 0", func(d, f, s bool) bool { return !d || f || !s }},
		{"distance > 0 and short < 1 or distance < 1 and short > 0", func(d, f, s bool) bool { return d != s }},
	} {
		for i := range 8 {
			env := api.Env{Distance: 5 * (i & 1), Field: 900 * (i >> 1 & 1), Short: i >> 2}
			expectHolds(t, condition(t, x.text), env, x.want(i&1 == 1, i>>1&1 == 1, i>>2 == 1))
		}
	}
}

func expectHolds(t *testing.T, c api.Cond, x api.Env, want bool) {
	t.Helper()
	if ok, e := typing.Holds(c, x); ok != want || e != api.OK {
		t.Errorf("%s in %+v: got %t, %d", short(c), x, ok, e)
	}
}

func TestRandomConditions(t *testing.T) {
	counts := map[bool]int{}
	for seed := range int64(4000) {
		a := newAuthor(seed)
		c, holds := a.cond(1 + a.Intn(4))
		if chapterCond(c) != api.OK {
			continue
		}
		before := copied(c)
		for range 8 {
			x := a.env()
			expectHolds(t, c, x, holds(x))
			expectHolds(t, c, x, chapterHolds(c, x))
			counts[holds(x)]++
		}
		if !same(c, before) {
			t.Errorf("%s was %s", short(c), short(before))
		}
	}
	if counts[true] < 5000 || counts[false] < 5000 {
		t.Error(counts)
	}
}

func TestDirect(t *testing.T) {
	letters := []string{"", "o", "y", "w", "b", "d"}
	for _, x := range []struct {
		text, want string
		x          api.Env
	}{
		{"older;", "o", api.Env{}},
		{"older; older;", "o", api.Env{Distance: 7, Field: 4000, Short: 1}},
		{"older; younger; wave; bib; draw;", "oywbd", api.Env{}},
		{"draw; bib; wave; younger; older;", "dbwyo", api.Env{}},
		{"draw; bib; draw; wave; bib; older; draw;", "dbwo", api.Env{}},
		{"older; if field >= 100 { bib; } else { draw; } older;", "ob", api.Env{Field: 100}},
		{"older; if field >= 100 { bib; } else { draw; } older;", "od", api.Env{Field: 99}},
		{"if field >= 100 { bib; }", "b", api.Env{Field: 4000}},
		{"if field >= 100 { bib; }", "", api.Env{Field: 1}},
		{"if short = 1 { bib; } if short = 0 { draw; wave; } older;", "bo", api.Env{Short: 1}},
		{"if short = 1 { bib; } if short = 0 { draw; wave; } older;", "dwo", api.Env{}},
		{"wave; if short = 1 { bib; wave; } draw; bib;", "wbd", api.Env{Short: 1}},
		{"wave; if short = 1 { bib; wave; } draw; bib;", "wdb", api.Env{}},
		{"if distance > 2 { if distance > 4 { bib; } else { draw; } older; } else { if distance > 1 { wave; } } older; draw;", "bod", api.Env{Distance: 5}},
		{"if distance > 2 { if distance > 4 { bib; } else { draw; } older; } else { if distance > 1 { wave; } } older; draw;", "do", api.Env{Distance: 3}},
		{"if distance > 2 { if distance > 4 { bib; } else { draw; } older; } else { if distance > 1 { wave; } } older; draw;", "wod", api.Env{Distance: 2}},
		{"if distance > 2 { if distance > 4 { bib; } else { draw; } older; } else { if distance > 1 { wave; } } older; draw;", "od", api.Env{Distance: 1}},
	} {
		l, e := typing.Direct(steps(t, x.text), x.x)
		got := ""
		for _, n := range l {
			got += letters[n]
		}
		if got != x.want || e != api.OK {
			t.Errorf("%q in %+v: got %s, %d; want %s", x.text, x.x, got, e, x.want)
		}
	}
}

func TestRandomSteps(t *testing.T) {
	lengths := map[int]int{}
	for seed := range int64(6000) {
		a := newAuthor(seed)
		l := a.steps(1 + a.Intn(4))
		if chapterTies(l) != api.OK {
			continue
		}
		before := copied(l)
		for range 4 {
			x := a.env()
			got, e := typing.Direct(l, x)
			want := chapterDirect(l, x)
			if e != api.OK || !slices.Equal(got, want) {
				t.Errorf("%s in %+v: got %v, %d; want %v", short(l), x, got, e, want)
			}
			lengths[len(want)]++
			for i := range got {
				got[i] = 0 // what is done to a result is of no consequence for others
			}
			if again, e := typing.Direct(l, x); e != api.OK || !slices.Equal(again, want) {
				t.Errorf("%s in %+v: got %v, %d; want %v again", short(l), x, again, e, want)
			}
		}
		if !same(l, before) {
			t.Errorf("%s was %s", short(l), short(before))
		}
	}
	for n := range 6 {
		if lengths[n] < 100 {
			t.Error(lengths)
		}
	}
}
