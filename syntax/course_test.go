package syntax_test

import (
	"fmt"
	"strconv"
	"strings"
	"testing"

	"stopwatch/api"
	"stopwatch/syntax"
)

// P6.1

const least = "course a { mats { } ties { bib; } faults { misses 0; strays 0; window 0:00; residual 0:00; drift 0; } protest fee 0 deadline 0:00; }"

const rich = `course Spring_7 {
  mats { start line; pass turn; pass far; end finish; pass turn; end line; }
  leg line to turn 0:30 .. 20:00; leg far to far 2.0 .. 1:00:00; leg turn to finish 0:00..0:00;
  distance brief gun { line; laps 3 { turn; laps 2 { far; far; } } finish; cutoff turn lap 2 45:00; cutoff far lap 0 0.5; extra turn; }
  distance direct chip { laps 0 { line; } }
  distance brief slot { finish; line; cutoff line lap 1 1:00; }
  distance last slot { far; extra far; }
  wave elite 0:00; wave open 5:00; wave open 5.000001;
  offence drafting 1:00; offence shortcut laps 1; offence abuse out; offence none 0:00; offence drafting laps 0;
  category junior 16 to 19; category line 120 to 0; category junior 1 to 2;
  prize brief all 1 50000; prize direct junior 2 10000; prize last line 0 1125899906842624;
  ties { older; if short >= 1 and field > 3 { bib; } else { draw; wave; } if distance < 2 { younger; } }
  faults { misses 1; strays 2; window 2.0; residual 0.005; drift 20; }
  protest fee 5000 deadline 15:00;
}`

const second, minute = 1000000, 60000000

func richCourse() api.Course {
	return api.Course{
		Name: "Spring_7",
		Mats: []api.Mat{{Name: "line", Kind: api.StartM}, {Name: "turn", Kind: api.PassM}, {Name: "far", Kind: api.PassM}, {Name: "finish", Kind: api.EndM}, {Name: "turn", Kind: api.PassM}, {Name: "line", Kind: api.EndM}},
		Legs: []api.Leg{{From: 0, To: 1, Min: minute / 2, Max: 20 * minute}, {From: 2, To: 2, Min: 2 * second, Max: 60 * minute}, {From: 1, To: 3, Min: 0, Max: 0}},
		Distances: []api.Distance{
			{
				Name:    "brief",
				Route:   []api.Part{{Mat: 0}, {Laps: 3, Parts: []api.Part{{Mat: 1}, {Laps: 2, Parts: []api.Part{{Mat: 2}, {Mat: 2}}}}}, {Mat: 3}},
				Timing:  api.GunT,
				Cutoffs: []api.Cutoff{{Mat: 1, Lap: 2, Limit: 45 * minute}, {Mat: 2, Lap: 0, Limit: second / 2}},
				Extra:   1,
			},
			{Name: "direct", Route: []api.Part{{Parts: []api.Part{{Mat: 0}}}}, Timing: api.ChipT, Extra: -1},
			{Name: "brief", Route: []api.Part{{Mat: 3}, {Mat: 0}}, Timing: api.SlotT, Cutoffs: []api.Cutoff{{Mat: 0, Lap: 1, Limit: minute}}, Extra: -1},
			{Name: "last", Route: []api.Part{{Mat: 2}}, Timing: api.SlotT, Extra: 2},
		},
		Waves:      []api.Wave{{Name: "elite", Gun: 0}, {Name: "open", Gun: 5 * minute}, {Name: "open", Gun: 5*second + 1}},
		Offences:   []api.Offence{{Name: "drafting", Time: minute}, {Name: "shortcut", Laps: 1}, {Name: "abuse", Out: true}, {Name: "none"}, {Name: "drafting"}},
		Categories: []api.Category{{Name: "junior", From: 16, To: 19}, {Name: "line", From: 120, To: 0}, {Name: "junior", From: 1, To: 2}},
		Prizes:     []api.Prize{{Distance: 0, Category: -1, Rank: 1, Amount: 50000}, {Distance: 1, Category: 0, Rank: 2, Amount: 10000}, {Distance: 3, Category: 1, Rank: 0, Amount: 1 << 50}},
		Ties: []api.Step{
			{Kind: api.ByS, By: api.OlderB},
			{
				Kind: api.IfS,
				Cond: api.Cond{Kind: api.AndC, Parts: []api.Cond{{Kind: api.AtLeastC, Var: api.ShortV, N: 1}, {Kind: api.AtLeastC, Var: api.FieldV, N: 4}}},
				Then: []api.Step{{Kind: api.ByS, By: api.BibB}},
				Else: []api.Step{{Kind: api.ByS, By: api.DrawB}, {Kind: api.ByS, By: api.WaveB}},
			},
			{Kind: api.IfS, Cond: not(api.Cond{Kind: api.AtLeastC, Var: api.DistanceV, N: 2}), Then: []api.Step{{Kind: api.ByS, By: api.YoungerB}}},
		},
		Faults:   api.Faults{Misses: 1, Strays: 2, Window: 2 * second, Residual: 5000, Drift: 20},
		Fee:      5000,
		Deadline: 15 * minute,
	}
}

func TestCourses(t *testing.T) {
	r := readers()[0]
	expectResult(t, r, rich, fmt.Sprintf("%+v", richCourse()))
	expectResult(t, r, least, fmt.Sprintf("%+v", api.Course{Name: "a", Ties: []api.Step{{Kind: api.ByS, By: api.BibB}}}))
}

// altered returns the rich course with a text instead of its only occurrence of another one.
func altered(t *testing.T, old, now string) string {
	t.Helper()
	if strings.Count(rich, old) != 1 {
		t.Fatalf("%q occurs %d times", old, strings.Count(rich, old))
	}
	return strings.Replace(rich, old, now, 1)
}

func TestErrorsOfCourses(t *testing.T) {
	for _, x := range []struct {
		old, now string
		e        api.Errno
	}{
		{"course Spring_7", "@Course Spring_7", api.ErrSyntax},
		{"course Spring_7", "@Spring_7", api.ErrSyntax},
		{"course Spring_7", `@"course" Spring_7`, api.ErrSyntax},
		{"course Spring_7", "course @leg", api.ErrSyntax},
		{"course Spring_7", `course @"Spring_7"`, api.ErrSyntax},
		{"course Spring_7 {", `course Spring_7 @"{"`, api.ErrSyntax},
		{"start line;", "start @start;", api.ErrSyntax},
		{"start line;", "@line;", api.ErrSyntax},
		{"start line;", "start line @pass turn;", api.ErrSyntax},
		{"start line;", "@laps start line;", api.ErrSyntax},
		{"  mats {", "@leg line to line 0:00 .. 0:00; mats {", api.ErrSyntax},
		{"leg line to turn", "leg @lin to turn", api.ErrName},
		{"leg line to turn", "leg @brief to turn", api.ErrName},
		{"leg line to turn", "leg @Line to turn", api.ErrName},
		{"leg line to turn", "leg @to turn", api.ErrSyntax},
		{"leg line to turn", `leg @"line" to turn`, api.ErrSyntax},
		{"leg line to turn", "leg line @turn", api.ErrSyntax},
		{"leg line to turn", "leg line to @junior", api.ErrName},
		{"leg line to turn", "leg line to @lap", api.ErrSyntax},
		{"turn 0:30 .. 20:00", "turn @30 .. 20:00", api.ErrSyntax},
		{"turn 0:30 .. 20:00", "turn @-0:30 .. 20:00", api.ErrSyntax},
		{"turn 0:30 .. 20:00", "turn 0:30 .. @-20:00", api.ErrSyntax},
		{"turn 0:30 .. 20:00", "turn 0:30 @20:00", api.ErrSyntax},
		{"turn 0:30 .. 20:00", "turn 0:30 .. @0", api.ErrSyntax},
		{"0:00..0:00;", "0:00..0:00 @distance x gun { line; }", api.ErrSyntax},
		{"direct chip", "@chip", api.ErrSyntax},
		{"direct chip", "direct @{", api.ErrSyntax},
		{"direct chip", "direct @end", api.ErrSyntax},
		{"direct chip", "direct chip @gun", api.ErrSyntax},
		{"{ laps 0 { line; } }", "{ @}", api.ErrSyntax},
		{"{ laps 0 { line; } }", "{ @cutoff line lap 1 1:00; }", api.ErrSyntax},
		{"{ laps 0 { line; } }", "{ laps 0 { @} }", api.ErrSyntax},
		{"{ laps 0 { line; } }", "{ laps 0 { @extra line; } }", api.ErrSyntax},
		{"{ laps 0 { line; } }", "{ laps 0 @line; }", api.ErrSyntax},
		{"{ laps 0 { line; } }", "{ laps @{ line; } }", api.ErrSyntax},
		{"{ laps 0 { line; } }", "{ laps @-1 { line; } }", api.ErrSyntax},
		{"{ laps 0 { line; } }", "{ laps @1.0 { line; } }", api.ErrSyntax},
		{"{ laps 0 { line; } }", "{ laps @1125899906842625 { line; } }", api.ErrSyntax},
		{"{ laps 0 { line; } }", "{ laps 0 { line; } @; }", api.ErrSyntax},
		{"{ laps 0 { line; } }", "{ laps 0 { @x; } }", api.ErrName},
		{"{ laps 0 { line; } }", "{ line; @direct; }", api.ErrName},
		{"{ laps 0 { line; } }", "{ line; @wave; }", api.ErrSyntax},
		{"cutoff turn lap 2", "cutoff @tur lap 2", api.ErrName},
		{"cutoff turn lap 2", "cutoff turn @2", api.ErrSyntax},
		{"cutoff turn lap 2", "cutoff turn @laps 2", api.ErrSyntax},
		{"cutoff turn lap 2", "cutoff turn lap @-2", api.ErrSyntax},
		{"lap 2 45:00;", "lap 2 @45;", api.ErrSyntax},
		{"lap 2 45:00;", "lap 2 @-45:00;", api.ErrSyntax},
		{"lap 2 45:00;", "lap 2 45:00; @turn;", api.ErrSyntax},
		{"extra turn;", "extra @brief;", api.ErrName},
		{"extra turn;", "extra @;", api.ErrSyntax},
		{"extra turn;", "extra turn; @extra turn;", api.ErrSyntax},
		{"extra turn;", "extra turn; @cutoff turn lap 1 1:00;", api.ErrSyntax},
		{"extra turn;", "extra turn; @line;", api.ErrSyntax},
		{"wave elite 0:00;", "wave @0:00;", api.ErrSyntax},
		{"wave elite 0:00;", "wave @older 0:00;", api.ErrSyntax},
		{"wave elite 0:00;", "wave elite @0;", api.ErrSyntax},
		{"wave elite 0:00;", "wave elite @-0:01;", api.ErrSyntax},
		{"offence drafting 1:00;", "offence @1:00;", api.ErrSyntax},
		{"offence drafting 1:00;", "offence drafting @1;", api.ErrSyntax},
		{"offence drafting 1:00;", "offence drafting @-1:00;", api.ErrSyntax},
		{"offence drafting 1:00;", "offence drafting @;", api.ErrSyntax},
		{"shortcut laps 1;", "shortcut laps @1:00;", api.ErrSyntax},
		{"shortcut laps 1;", "shortcut laps @-1;", api.ErrSyntax},
		{"abuse out;", "abuse out @1:00;", api.ErrSyntax},
		{"category junior 16 to 19;", "category junior @-16 to 19;", api.ErrSyntax},
		{"category junior 16 to 19;", "category junior 16 @.. 19;", api.ErrSyntax},
		{"category junior 16 to 19;", "category junior 16 to @;", api.ErrSyntax},
		{"category junior 16 to 19;", "category @all 16 to 19;", api.ErrSyntax},
		{"category junior 16 to 19;", "prize brief all 1 1; @category junior 16 to 19;", api.ErrSyntax},
		{"category junior 16 to 19;", "@wave late 1:00; category junior 16 to 19;", api.ErrSyntax},
		{"prize brief all", "prize @turn all", api.ErrName},
		{"prize brief all", "prize @all 1 1;", api.ErrSyntax},
		{"prize brief all", "prize brief @brief", api.ErrName},
		{"prize brief all", "prize brief @turn", api.ErrName},
		{"prize brief all", "prize brief @gun", api.ErrSyntax},
		{"all 1 50000;", "all @1:00 50000;", api.ErrSyntax},
		{"all 1 50000;", "all 1 @-50000;", api.ErrSyntax},
		{"all 1 50000;", "all 1 @1125899906842625;", api.ErrSyntax},
		{"all 1 50000;", "all 1 @123456789012345678;", api.ErrSyntax},
		{"all 1 50000;", "all 1 50000 @1;", api.ErrSyntax},
		{"ties { older;", "ties { @} ties { older;", api.ErrSyntax},
		{"ties { older;", "ties { @chip;", api.ErrSyntax},
		{"ties { older;", "ties { @Older;", api.ErrSyntax},
		{"ties { older;", "ties @older;", api.ErrSyntax},
		{"misses 1; strays 2;", "@strays 2; misses 1;", api.ErrSyntax},
		{"misses 1; strays 2;", "misses 1 @strays 2;", api.ErrSyntax},
		{"misses 1;", "misses @1.0;", api.ErrSyntax},
		{"strays 2;", "strays @-2;", api.ErrSyntax},
		{"window 2.0;", "window @2;", api.ErrSyntax},
		{"residual 0.005;", "residual @-0.005;", api.ErrSyntax},
		{"drift 20;", "drift @0:20;", api.ErrSyntax},
		{"drift 20; }", "drift 20; @protest fee 0 deadline 0:00; }", api.ErrSyntax},
		{"fee 5000", "@5000", api.ErrSyntax},
		{"fee 5000", "fee @50:00", api.ErrSyntax},
		{"fee 5000", "fee @-1", api.ErrSyntax},
		{"deadline 15:00;", "deadline @15;", api.ErrSyntax},
		{"deadline 15:00;\n}", "deadline 15:00\n@}", api.ErrSyntax},
		{"deadline 15:00;\n}", "deadline 15:00;\n}@}", api.ErrSyntax},
		{"deadline 15:00;\n}", "deadline 15:00;\n} @course a { }", api.ErrSyntax},
		{"deadline 15:00;\n}", "deadline 15:00; @protest fee 0 deadline 0:00; }", api.ErrSyntax},
		{"deadline 15:00;\n}", "deadline 15:00; # }\n  @", api.ErrSyntax},
	} {
		expectMarked(t, readers()[0], altered(t, x.old, x.now), x.e)
	}
}

func TestNamesOfCourses(t *testing.T) {
	r := readers()[0]
	// No mat, distance or category is described.
	for _, marked := range []string{
		"leg @a to a 0:00 .. 0:00;",
		"distance a gun { @a; }",
		"distance a gun { laps 1 { @a; } }",
		"prize @a all 1 1;",
		"category a 0 to 1; prize @a a 1 1;",
	} {
		expectMarked(t, r, strings.Replace(least, "ties", marked+" ties", 1), api.ErrName)
	}
	// A distance is known after its own description, and a category is no distance.
	head := "course a { mats { end a; pass b; end a; } distance c gun { b; } distance a gun { b; } distance c gun { a; } category d 0 to 1; category a 1 to 2; "
	tail := least[strings.Index(least, "ties"):]
	expectMarked(t, r, head+"prize @b all 1 1; "+tail, api.ErrName)
	expectMarked(t, r, head+"prize @d all 1 1; "+tail, api.ErrName)
	expectMarked(t, r, head+"prize c @c 1 1; "+tail, api.ErrName)
	expectMarked(t, r, head+"prize c @b 1 1; "+tail, api.ErrName)
	c, at, e := syntax.Course([]byte(head + "prize a a 1 2; prize c d 3 4; " + tail))
	if e != api.OK || at != 0 || fmt.Sprint(c.Prizes) != "[{1 1 1 2} {0 0 3 4}]" || c.Distances[2].Route[0].Mat != 0 {
		t.Error(c, at, e)
	}
}

func TestEachTokenAfterEachBeginningOfCourses(t *testing.T) {
	if n := len(vocabulary()); n < 42+14 {
		t.Fatal(n)
	}
	expectEachNext(t, readers()[0], rich)
	expectEachNext(t, readers()[0], least)
}

func TestRandomCourses(t *testing.T) {
	for seed := range int64(1500) {
		a := newAuthor(seed)
		c := a.course()
		expectResult(t, readers()[0], a.spaced(a.words), fmt.Sprintf("%+v", c))
	}
}

func TestMutatedCourses(t *testing.T) {
	rules, counts := chapterRules(), map[api.Errno]int{}
	for seed := range int64(4000) {
		a := newAuthor(seed)
		a.course()
		_, e := expectVerdict(t, rules, readers()[0], a.spaced(mutated(a, a.words)))
		counts[e]++
	}
	if counts[api.ErrSyntax] < 1000 || counts[api.ErrName] < 10 || counts[api.OK] < 10 {
		t.Error(counts)
	}
}

func TestNumbersAndTimes(t *testing.T) {
	for _, x := range []struct {
		n  string
		ok bool
	}{{"0", true}, {"1", true}, {"-1", false}, {"1125899906842623", true}, {"1125899906842624", true}, {"1125899906842625", false}, {"999999999999999999", false}, {"-999999999999999999", false}} {
		for _, place := range []string{"misses 0", "strays 0", "drift 0", "fee 0"} {
			text := strings.Replace(least, place, strings.Fields(place)[0]+" @"+x.n, 1)
			if !x.ok {
				expectMarked(t, readers()[0], text, api.ErrSyntax)
				continue
			}
			c, _, e := syntax.Course([]byte(strings.Replace(text, "@", "", 1)))
			if e != api.OK || strconv.Itoa(c.Faults.Misses+c.Faults.Strays+c.Faults.Drift+c.Fee) != x.n {
				t.Error(place, x.n, c, e)
			}
		}
	}
	for _, x := range []struct {
		time string
		want int
	}{{"0.0", 0}, {"0.000001", 1}, {"-0.000001", -1}, {"305:25:11.627776", 1 << 40}, {"-305:25:11.627776", -1}, {"62:03.50", 3723500000}} {
		for _, place := range []string{"window 0:00", "residual 0:00", "deadline 0:00"} {
			text := strings.Replace(least, place, strings.Fields(place)[0]+" @"+x.time, 1)
			if x.want < 0 {
				expectMarked(t, readers()[0], text, api.ErrSyntax)
				continue
			}
			c, _, e := syntax.Course([]byte(strings.Replace(text, "@", "", 1)))
			if e != api.OK || c.Faults.Window+c.Faults.Residual+c.Deadline != x.want {
				t.Error(place, x.time, c, e)
			}
		}
	}
}

// inLaps returns the least course with a distance whose part is enclosed by many laps.
func inLaps(many int, part string) string {
	return strings.Replace(least, "{ } ties", "{ end x; } distance d gun { "+strings.Repeat("laps 2 { ", many)+part+strings.Repeat(" }", many)+" } ties", 1)
}

func TestDepthOfLaps(t *testing.T) {
	r := readers()[0]
	c, at, e := syntax.Course([]byte(inLaps(16, "x;")))
	l := []api.Part{{Mat: 0}}
	for range 16 {
		l = []api.Part{{Laps: 2, Parts: l}}
	}
	if e != api.OK || at != 0 || fmt.Sprint(c.Distances[0].Route) != fmt.Sprint(l) {
		t.Error(c, at, e)
	}
	for _, marked := range []string{"@laps 2 { x; }", "@laps", "x; @laps 2 { x; }", "x; x; @laps x"} {
		expectMarked(t, r, inLaps(16, marked), api.ErrLimit)
	}
	for _, marked := range []string{"x @laps 2 { x; }", "@; laps 2 { x; }", "@if", "@not", "x; @( x", "x; } @; laps 2 { x; }"} {
		expectMarked(t, r, inLaps(16, marked), api.ErrSyntax)
	}
	for many := 17; many < 3000; many += many {
		text := inLaps(many, "x;")
		expectError(t, r, text, strings.Index(text, "laps")+16*len("laps 2 { "), api.ErrLimit)
	}
}

func TestWhatEnclosesNothing(t *testing.T) {
	many := strings.Repeat("laps 1 { x; } ", 40)
	for _, part := range []string{many, "laps 1 { " + many + "} " + many} {
		if _, at, e := syntax.Course([]byte(inLaps(14, part))); e != api.OK || at != 0 {
			t.Error(part, at, e)
		}
	}
	offences := strings.Repeat("offence o laps 1; ", 40)
	expectVerdict(t, chapterRules(), readers()[0], strings.Replace(least, "ties", offences+"ties", 1))
	if _, at, e := syntax.Course([]byte(strings.Replace(inLaps(16, "x;"), "ties", offences+"ties", 1))); e != api.OK || at != 0 {
		t.Error(at, e)
	}
}
