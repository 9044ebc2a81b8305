package syntax_test

import (
	"fmt"
	"strconv"
	"strings"
	"testing"

	"stopwatch/api"
	"stopwatch/lexis"
	"stopwatch/syntax"
)

// P6.2

// sketch writes a condition with letters for variables, and & | ! before the parts of the others.
func sketch(c api.Cond) string {
	if c.Kind == api.AtLeastC && len(c.Parts) == 0 {
		return map[int]string{api.DistanceV: "d", api.FieldV: "f", api.ShortV: "s"}[c.Var] + strconv.Itoa(c.N)
	}
	var parts []string
	for _, x := range c.Parts {
		parts = append(parts, sketch(x))
	}
	return map[int]string{api.AndC: "&", api.OrC: "|", api.NotC: "!"}[c.Kind] + "(" + strings.Join(parts, " ") + ")"
}

// sketchSteps writes steps with letters for criteria, and conditions with what follows if they hold, and if not.
func sketchSteps(l []api.Step) string {
	s := ""
	for _, x := range l {
		s += map[int]string{api.OlderB: "o", api.YoungerB: "y", api.WaveB: "w", api.BibB: "b", api.DrawB: "d"}[x.By]
		if x.Kind == api.IfS {
			s += "[" + sketch(x.Cond) + "? " + sketchSteps(x.Then) + ": " + sketchSteps(x.Else) + "]"
		}
	}
	return s
}

func TestConditions(t *testing.T) {
	for _, x := range []struct{ text, want string }{
		{"distance >= 0", "d0"},
		{"field >= 7", "f7"},
		{"short >= 1125899906842624", "s1125899906842624"},
		{"field > 3", "f4"},
		{"field > 1125899906842624", "f1125899906842625"},
		{"field < 0", "!(f0)"},
		{"field < 3", "!(f3)"},
		{"field <= 3", "!(f4)"},
		{"field = 2", "&(f2 !(f3))"},
		{"short = 0", "&(s0 !(s1))"},
		{"short >= 1 and field > 3", "&(s1 f4)"},
		{"short >= 1 or field > 3", "|(s1 f4)"},
		{"not short >= 1", "!(s1)"},
		{"not not short >= 1", "!(!(s1))"},
		{"not short < 1", "!(!(s1))"},
		{"not short = 1", "!(&(s1 !(s2)))"},
		{"(((short >= 1)))", "s1"},
		{"(not (short >= 1))", "!(s1)"},
		{"short >= 1 and short >= 1", "&(s1 s1)"},
		{"short >= 1 and short >= 2 and short >= 3", "&(s1 s2 s3)"},
		{"short >= 1 or short >= 2 or short >= 3", "|(s1 s2 s3)"},
		{"short >= 1 or short >= 2 and short >= 3", "|(s1 &(s2 s3))"},
		{"short >= 1 and short >= 2 or short >= 3", "|(&(s1 s2) s3)"},
		{"short >= 1 and short >= 2 or short >= 3 and short >= 4", "|(&(s1 s2) &(s3 s4))"},
		{"(short >= 1 or short >= 2) and short >= 3", "&(|(s1 s2) s3)"},
		{"short >= 1 or (short >= 2 or short >= 3)", "|(s1 |(s2 s3))"},
		{"(short >= 1 and short >= 2) and short >= 3", "&(&(s1 s2) s3)"},
		{"short = 1 and field >= 2", "&(&(s1 !(s2)) f2)"},
		{"not short >= 1 and field >= 2", "&(!(s1) f2)"},
		{"not short >= 1 or field >= 2", "|(!(s1) f2)"},
		{"not (short >= 1 or field >= 2)", "!(|(s1 f2))"},
		{"field >= 2 and not not (distance > 1 or short <= 0) or field < 9", "|(&(f2 !(!(|(d2 !(s1))))) !(f9))"},
	} {
		c, at, e := syntax.Condition([]byte(x.text))
		if got := sketch(c); got != x.want || at != 0 || e != api.OK {
			t.Errorf("%q: got %s, %d, %d; want %s", x.text, got, at, e, x.want)
		}
	}
}

func TestErrorsOfConditions(t *testing.T) {
	for _, marked := range []string{
		"@", "  @", "# nothing @", "field@", "field @1", "field >=@", "field >= @-1", "field >= @1.0", "field >= @0:01", "field >= @field",
		"field >= @1125899906842625", "field > @999999999999999999", `field >= @"1"`, "field > @= 1", "field @.. 1", "field @and short > 0", `field @">" 1`,
		"@wave >= 1", "@tied >= 1", "@Field >= 1", "@1 >= field", "@>= 1", "@and field > 1", `@"field" > 1`, "@) field > 1", "@if field > 1",
		"field > 1 @field > 1", "field > 1 @1", "field > 1 @)", "field > 1 @;", "field > 1 @not field > 1", "field > 1 @(field > 1)", `field > 1 @"and" field > 1`,
		"field > 1 and@", "field > 1 or@", "field > 1 and @or field > 1", "field > 1 and @)", "field > 1 and not@",
		"not@", "not @and", "not @)", "(@", "(@)", "(field@)", "(field > 1@", "(field > 1 @;", "(field > 1) @)", "(field > 1) @(", "(field > 1 or@)", "((field > 1) @;)", "not (field > 1 @not",
	} {
		expectMarked(t, readers()[1], marked, api.ErrSyntax)
	}
}

func TestSteps(t *testing.T) {
	for _, x := range []struct{ text, want string }{
		{"older; bib;", "ob"},
		{"older; younger; wave; bib; draw;", "oywbd"},
		{"draw; draw;", "dd"},
		{"if short > 0 { bib; }", "[s1? b: ]"},
		{"if short > 0 { bib; } draw;", "[s1? b: ]d"},
		{"if short > 0 { bib; } else { draw; wave; } older;", "[s1? b: dw]o"},
		{"if short > 0 { bib; } if field > 0 { wave; }", "[s1? b: ][f1? w: ]"},
		{"if short > 0 { if field > 0 { wave; } } else { draw; }", "[s1? [f1? w: ]: d]"},
		{"if short > 0 { if field > 0 { wave; } else { draw; } }", "[s1? [f1? w: d]: ]"},
		{"if short > 0 { bib; } else { if field > 0 { wave; } else { draw; } older; }", "[s1? b: [f1? w: d]o]"},
		{"if (short > 0) { bib; }", "[s1? b: ]"},
		{"if not (short > 0 or field = 1) { bib; younger; }", "[!(|(s1 &(f1 !(f2))))? by: ]"},
	} {
		l, at, e := syntax.Steps([]byte(x.text))
		if got := sketchSteps(l); got != x.want || at != 0 || e != api.OK {
			t.Errorf("%q: got %s, %d, %d; want %s", x.text, got, at, e, x.want)
		}
	}
}

func TestErrorsOfSteps(t *testing.T) {
	for _, marked := range []string{
		"@", " @", "older@", "older @younger;", "@;", "older; @;", "older; @gun;", "older; @distance;", "@Older;", "@lots;", `@"older";`, `older @";"`, "@{ older; }", "older; @}",
		"if@", "if @{ older; }", "if short > 0@", "if short > 0 @older;", "if short > 0 {@", "if short > 0 { @} draw;", "if short > 0 { bib @}", "if short > 0 { bib;@", "if short > 0 { bib; @else", `if short > 0 @"{"`,
		"if short > 0 { bib; } else@", "if short > 0 { bib; } else @bib;", "if short > 0 { bib; } else @if short > 0 { bib; }", "if short > 0 { bib; } else { @}", "if short > 0 { bib; } else { bib;@",
		"if short > 0 { bib; } @; bib;", "if short > 0 { bib; } @}", "if short > 0 { bib; } else { bib; } @else { bib; }", "bib; @else { bib; }", "@else { bib; }", "if short > 0 @) { bib; }", "if (short > 0 @{ bib; }", "if @older { bib; }", "if short > 0 and @{ bib; }",
	} {
		expectMarked(t, readers()[2], marked, api.ErrSyntax)
	}
}

func TestEachTokenAfterEachBeginningOfTies(t *testing.T) {
	expectEachNext(t, readers()[1], "not (field >= 2 and not not (distance > 1 or short <= 0) or field < 9) and ((short = 1))")
	expectEachNext(t, readers()[2], "older; if not (short > 0) or field = 1 { younger; if distance < 1 { bib; } else { draw; if short >= 2 { wave; } } bib; } else { draw; } if field <= 3 { wave; }")
}

// eachViable calls a function with each sequence of words of at most the given length whose beginnings are all beginnings of texts of a rule.
func eachViable(rules map[string]*form, rule string, letters []string, length int, call func(text string)) {
	var extend func(l []string)
	extend = func(l []string) {
		text := strings.Join(l, " ")
		call(text)
		tokens, _, _ := lexis.Tokens([]byte(text))
		if i, e := verdict(rules, rule, tokens); len(l) == length || e != api.OK && i < len(l) {
			return
		}
		for _, w := range letters {
			extend(append(l[:len(l):len(l)], w))
		}
	}
	extend(nil)
}

func TestAllShortTexts(t *testing.T) {
	rules := chapterRules()
	for _, x := range []struct {
		r       reader
		letters string
		length  int
	}{
		{readers()[1], "not ( ) and or field < 1", 9},
		{readers()[1], "( short = 0 ) -1", 12},
		{readers()[2], "if else { } ; wave short > 1", 14},
	} {
		count := 0
		eachViable(rules, x.r.rule, strings.Fields(x.letters), x.length, func(text string) {
			expectVerdict(t, rules, x.r, text)
			count++
		})
		if count < 300 {
			t.Error(x.letters, count)
		}
	}
}

func TestRandomTies(t *testing.T) {
	rules, counts := chapterRules(), map[api.Errno]int{}
	for seed := range int64(6000) {
		a := newAuthor(seed)
		r := readers()[1+seed%2]
		var want string
		if r.rule == "condition" {
			want = fmt.Sprintf("%+v", a.condition(6))
		} else {
			want = fmt.Sprintf("%+v", a.steps(6))
		}
		expectResult(t, r, a.spaced(a.words), want)
		_, e := expectVerdict(t, rules, r, a.spaced(mutated(a, a.words)))
		counts[e]++
	}
	if counts[api.ErrSyntax] < 1000 || counts[api.OK] < 10 {
		t.Error(counts)
	}
}

func TestDepthOfConditions(t *testing.T) {
	r := readers()[1]
	for _, x := range []struct{ opens, closes string }{
		{strings.Repeat("not ", 16), ""},
		{strings.Repeat("(", 16), strings.Repeat(")", 16)},
		{strings.Repeat("not (", 8), strings.Repeat(")", 8)},
		{strings.Repeat("field > 1 or (", 16), strings.Repeat(" and field > 1)", 16)},
		{strings.Repeat("not field > 1 and not (", 8), strings.Repeat(")", 8)},
	} {
		for _, unit := range []string{"short > 0", "short > 0 and short > 1 or field = 2"} {
			if _, at, e := syntax.Condition([]byte(x.opens + unit + x.closes)); at != 0 || e != api.OK {
				t.Errorf("%s%s%s: got %d at %d", x.opens, unit, x.closes, e, at)
			}
		}
		for _, marked := range []string{"@not", "@(", "@not short > 0", "@(short > 0)", "@not not", "@((", "@(;", "@not ;"} {
			expectMarked(t, r, x.opens+marked, api.ErrLimit)
		}
		for _, marked := range []string{"@)", "@and (", "@if", "@laps", "short @not", "short > @(", "short > 0 @(", "short > 0 @not"} {
			expectMarked(t, r, x.opens+marked, api.ErrSyntax)
		}
	}
	// After a `)`, and after the unit of a `not`, the depth is what it was.
	for _, text := range []string{
		"(" + strings.Repeat("(short > 0) and ", 40) + "short > 0)",
		strings.Repeat("not short > 0 or ", 40) + strings.Repeat("not ", 16) + "short > 0",
		strings.Repeat("(", 15) + strings.Repeat("not short > 0 and (short > 0) or ", 20) + "short > 0" + strings.Repeat(")", 15),
		strings.Repeat("not ", 15) + "(short > 0) and " + strings.Repeat("not ", 15) + "(short > 0)",
	} {
		if _, at, e := syntax.Condition([]byte(text)); at != 0 || e != api.OK {
			t.Errorf("%s: got %d at %d", text, e, at)
		}
	}
	expectMarked(t, r, strings.Repeat("not ", 15)+"(short > 0 and @(short > 0))", api.ErrLimit)
	expectMarked(t, r, strings.Repeat("not ", 15)+"(short > 0) and "+strings.Repeat("not ", 15)+"(@not", api.ErrLimit)
	for many := 17; many < 10000; many *= 3 {
		expectError(t, r, strings.Repeat("not ", many)+"short > 0", 64, api.ErrLimit)
		expectError(t, r, strings.Repeat("(", many)+"short > 0"+strings.Repeat(")", many), 16, api.ErrLimit)
	}
}

// inIfs returns steps in many `if`, each other one in an else.
func inIfs(many int, steps string) string {
	opens, closes := "", ""
	for i := range many {
		opens += []string{"if short > 0 { ", "if not (short > 0) { bib; } else { "}[i%2]
		closes += " }"
	}
	return opens + steps + closes
}

func TestDepthOfSteps(t *testing.T) {
	r := readers()[2]
	if l, at, e := syntax.Steps([]byte(inIfs(16, "bib; wave;"))); at != 0 || e != api.OK || len(l) != 1 || strings.Count(sketchSteps(l), "[") != 16 {
		t.Error(l, at, e)
	}
	for _, marked := range []string{"@if", "@if short > 0 { bib; }", "bib; @if", "bib; wave; @if ;"} {
		expectMarked(t, r, inIfs(16, marked), api.ErrLimit)
	}
	for _, marked := range []string{"bib @if", "@not", "@(", "@laps", "bib; @else", "bib; @( short"} {
		expectMarked(t, r, inIfs(16, marked), api.ErrSyntax)
	}
	// An `if` beside others is not enclosed by them, and a condition counts for itself.
	deepest := "if " + strings.Repeat("not (", 8) + "field > 1" + strings.Repeat(")", 8) + " { bib; } else { wave; } "
	for _, text := range []string{strings.Repeat(deepest, 40), inIfs(15, strings.Repeat(deepest, 40))} {
		if _, at, e := syntax.Steps([]byte(text)); at != 0 || e != api.OK {
			t.Errorf("%s: got %d at %d", short(text), e, at)
		}
	}
	expectMarked(t, r, strings.Repeat(deepest, 5)+"if "+strings.Repeat("not ", 16)+"@(field > 1) { bib; }", api.ErrLimit)
	expectMarked(t, r, inIfs(3, "if "+strings.Repeat("(", 16)+"@not field > 1"), api.ErrLimit)
	for many := 17; many < 4000; many *= 3 {
		expectError(t, r, strings.Repeat("if short > 0 { ", many)+"bib;"+strings.Repeat(" }", many), 240, api.ErrLimit)
	}
	// The tie rule of a course begins at the depth 0, too.
	course := strings.Replace(least, "bib;", inIfs(16, "@bib;"), 1)
	if _, at, e := syntax.Course([]byte(strings.Replace(course, "@", "", 1))); at != 0 || e != api.OK {
		t.Error(at, e)
	}
	expectMarked(t, readers()[0], strings.Replace(course, "@", "@if short > 0 ", 1), api.ErrLimit)
}

// eachDepth calls a function with openings and closings of many, about as many as are admitted, with others beside them.
func eachDepth(a *author, opens, closes []string, call func(open, closing string)) {
	for many := 14; many < 19; many++ {
		open, closing := "", ""
		for range many {
			i := a.Intn(len(opens))
			open, closing = open+opens[i]+" ", closes[i]+" "+closing
		}
		call(open, closing)
	}
}

func TestRandomDepths(t *testing.T) {
	rules, counts := chapterRules(), map[api.Errno]int{}
	for seed := range int64(200) {
		a := newAuthor(seed)
		check := func(r reader, text string) {
			for _, x := range []string{text, strings.Join(mutated(a, strings.Fields(text)), " ")} {
				_, e := expectVerdict(t, rules, r, x)
				counts[e]++
			}
		}
		units := []string{"field > 1", "not field > 1", "( field > 1 )", "not ( not short < 1 and field = 1 )", "not", "(", "laps"}
		eachDepth(a, []string{"not", "(", "field > 1 and not (", "not not short = 1 or ("}, []string{"", ")", ")", ") and not field > 1"}, func(open, closing string) {
			text := open + units[a.Intn(len(units))] + " " + closing
			check(readers()[1], text)
			check(readers()[2], "if "+text+" { bib ; }")
		})
		steps := []string{"bib ;", "if field > 1 { bib ; } wave ;", "if", "not", "bib ; if not not field > 1 { bib ; } else { bib ; }"}
		eachDepth(a, []string{"if not ( short > 0 ) {", "if short > 0 { bib ; } else { draw ;", "wave ; if short = 1 {"}, []string{"}", "}", "} else { bib ; if short > 2 { draw ; } }"}, func(open, closing string) {
			check(readers()[2], open+steps[a.Intn(len(steps))]+" "+closing)
		})
		parts := []string{"x ;", "laps 1 { x ; } x ;", "laps", "x ; laps 2 { x ; x ; }", "if"}
		eachDepth(a, []string{"laps 2 {", "x ; laps 0 {"}, []string{"}", "} laps 1 { x ; }"}, func(open, closing string) {
			check(readers()[0], strings.Replace(inLaps(0, "@"), "@", open+parts[a.Intn(len(parts))]+" "+closing, 1))
		})
	}
	if counts[api.ErrLimit] < 500 || counts[api.ErrSyntax] < 500 || counts[api.OK] < 500 {
		t.Error(counts)
	}
}
