package format_test

import (
	"reflect"
	"strings"
	"testing"

	"stopwatch/api"
	"stopwatch/format"
	"stopwatch/syntax"
	"stopwatch/typing"
)

// P8.1

const (
	second = 1000000
	minute = 60 * second
	hour   = 60 * minute
)

// harbour is the text of harbourCourse.
const harbour = `course harbour_1 {
  mats { start pier; end quay; pass buoy; pass rock; start steps; }
  leg pier to buoy 0:30 .. 19:05:19.476736;
  leg buoy to rock 0:00 .. 0:00;
  leg rock to buoy 0:00.000001 .. 0:59.999999;
  leg buoy to buoy 1:00 .. 1:00:00.5;
  leg buoy to quay 1:00:00 .. 10:00:00;
  leg steps to buoy 0:01 .. 0:10;
  leg pier to quay 0:00 .. 0:01;
  distance whole gun { pier; laps 3 { buoy; laps 2 { rock; buoy; } } quay; cutoff buoy lap 9 305:25:11.627776; cutoff quay lap 1 0:00; cutoff buoy lap 1 0:00.25; extra buoy; }
  distance half chip { laps 1 { laps 1 { steps; } buoy; } laps 64 { buoy; } quay; cutoff steps lap 1 0:00; }
  distance dash slot { pier; quay; }
  wave first 0:00;
  wave last_wave 305:25:11.627776;
  offence push 0:30;
  offence cut laps 64;
  offence abuse out;
  offence late 0:00;
  offence lane laps 1;
  category all_ages 0 to 120;
  category junior 16 to 16;
  prize dash all 1 1125899906842624;
  prize whole junior 4000 1;
  prize dash all_ages 2 100;
  prize whole all 2 50;
  ties { draw; if distance >= 0 { older; } else { younger; if not field >= 10000 and short >= 1 { wave; bib; } } if short >= 2 { if field >= 1 or short >= 1 { draw; } } older; }
  faults { misses 1; strays 16; window 0:02.5; residual 1:11:34.967296; drift 100000; }
  protest fee 1125899906842624 deadline 15:00;
}
`

func by(n int) api.Step { return api.Step{Kind: api.ByS, By: n} }

func atLeast(v, n int) api.Cond { return api.Cond{Kind: api.AtLeastC, Var: v, N: n} }

func and(l ...api.Cond) api.Cond { return api.Cond{Kind: api.AndC, Parts: l} }

func or(l ...api.Cond) api.Cond { return api.Cond{Kind: api.OrC, Parts: l} }

func not(c api.Cond) api.Cond { return api.Cond{Kind: api.NotC, Parts: []api.Cond{c}} }

func ifThen(c api.Cond, then ...api.Step) api.Step {
	return api.Step{Kind: api.IfS, Cond: c, Then: then}
}

func otherwise(s api.Step, l ...api.Step) api.Step {
	s.Else = l
	return s
}

func lapsOf(n int, l ...api.Part) api.Part { return api.Part{Laps: n, Parts: l} }

// passes returns parts without laps.
func passes(mats ...int) (l []api.Part) {
	for _, m := range mats {
		l = append(l, api.Part{Mat: m})
	}
	return l
}

func harbourDistances() []api.Distance {
	pier, quay, buoy, rock, stairs := api.Part{Mat: 0}, api.Part{Mat: 1}, api.Part{Mat: 2}, api.Part{Mat: 3}, api.Part{Mat: 4}
	return []api.Distance{
		{
			Name: "whole", Timing: api.GunT, Extra: 2,
			Route:   []api.Part{pier, lapsOf(3, buoy, lapsOf(2, rock, buoy)), quay},
			Cutoffs: []api.Cutoff{{Mat: 2, Lap: 9, Limit: 1 << 40}, {Mat: 1, Lap: 1, Limit: 0}, {Mat: 2, Lap: 1, Limit: second / 4}},
		},
		{
			Name: "half", Timing: api.ChipT, Extra: -1,
			Route:   []api.Part{lapsOf(1, lapsOf(1, stairs), buoy), lapsOf(64, buoy), quay},
			Cutoffs: []api.Cutoff{{Mat: 4, Lap: 1}},
		},
		{Name: "dash", Timing: api.SlotT, Extra: -1, Route: []api.Part{pier, quay}},
	}
}

func harbourTies() []api.Step {
	return []api.Step{
		by(api.DrawB),
		otherwise(ifThen(atLeast(api.DistanceV, 0), by(api.OlderB)),
			by(api.YoungerB),
			ifThen(and(not(atLeast(api.FieldV, 10000)), atLeast(api.ShortV, 1)), by(api.WaveB), by(api.BibB))),
		ifThen(atLeast(api.ShortV, 2), ifThen(or(atLeast(api.FieldV, 1), atLeast(api.ShortV, 1)), by(api.DrawB))),
		by(api.OlderB),
	}
}

func harbourCourse() api.Course {
	return api.Course{
		Name: "harbour_1",
		Mats: []api.Mat{{Name: "pier", Kind: api.StartM}, {Name: "quay", Kind: api.EndM}, {Name: "buoy", Kind: api.PassM}, {Name: "rock", Kind: api.PassM}, {Name: "steps", Kind: api.StartM}},
		Legs: []api.Leg{
			{From: 0, To: 2, Min: 30 * second, Max: 1 << 36},
			{From: 2, To: 3},
			{From: 3, To: 2, Min: 1, Max: minute - 1},
			{From: 2, To: 2, Min: minute, Max: hour + second/2},
			{From: 2, To: 1, Min: hour, Max: 10 * hour},
			{From: 4, To: 2, Min: second, Max: 10 * second},
			{From: 0, To: 1, Max: second},
		},
		Distances:  harbourDistances(),
		Waves:      []api.Wave{{Name: "first"}, {Name: "last_wave", Gun: 1 << 40}},
		Offences:   []api.Offence{{Name: "push", Time: 30 * second}, {Name: "cut", Laps: 64}, {Name: "abuse", Out: true}, {Name: "late"}, {Name: "lane", Laps: 1}},
		Categories: []api.Category{{Name: "all_ages", From: 0, To: 120}, {Name: "junior", From: 16, To: 16}},
		Prizes: []api.Prize{
			{Distance: 2, Category: -1, Rank: 1, Amount: 1 << 50},
			{Distance: 0, Category: 1, Rank: 4000, Amount: 1},
			{Distance: 2, Category: 0, Rank: 2, Amount: 100},
			{Distance: 0, Category: -1, Rank: 2, Amount: 50},
		},
		Ties:     harbourTies(),
		Faults:   api.Faults{Misses: 1, Strays: 16, Window: 5 * second / 2, Residual: 1 << 32, Drift: 100000},
		Fee:      1 << 50,
		Deadline: 15 * minute,
	}
}

// short is what a test says of a long text.
func short(s string) string {
	if len(s) > 2000 {
		return s[:2000] + " .."
	}
	return s
}

func expectCourse(t *testing.T, c api.Course, want string) {
	t.Helper()
	if b, e := format.Course(c); e != api.OK || string(b) != want {
		t.Errorf("got %d:\n%s\nwant:\n%s", e, short(string(b)), short(want))
	}
}

func expectNoCourse(t *testing.T, what string, c api.Course, want api.Errno) {
	t.Helper()
	if b, e := format.Course(c); e != want || len(b) > 0 {
		t.Errorf("%s: got %d and %d bytes, want %d", what, e, len(b), want)
	}
}

func TestCourse(t *testing.T) {
	expectCourse(t, harbourCourse(), harbour)
}

// smallest has nothing that a valid course can do without.
func smallest() api.Course {
	return api.Course{Name: "a", Ties: []api.Step{by(api.DrawB)}}
}

func TestCourseWithEmptyLists(t *testing.T) {
	want := "course a {\n  mats { }\n  ties { draw; }\n  faults { misses 0; strays 0; window 0:00; residual 0:00; drift 0; }\n  protest fee 0 deadline 0:00;\n}\n"
	expectCourse(t, smallest(), want)
	c := smallest()
	c.Mats, c.Legs, c.Distances, c.Waves = []api.Mat{}, []api.Leg{}, []api.Distance{}, []api.Wave{}
	c.Offences, c.Categories, c.Prizes = []api.Offence{}, []api.Category{}, []api.Prize{}
	c.Ties[0].Cond.Parts, c.Ties[0].Then, c.Ties[0].Else = []api.Cond{}, []api.Step{}, []api.Step{}
	expectCourse(t, c, want)
	c.Ties = []api.Step{{Kind: api.IfS, Cond: atLeast(api.FieldV, 7), Then: []api.Step{by(api.BibB)}, Else: []api.Step{}}}
	expectCourse(t, c, strings.Replace(want, "draw;", "if field >= 7 { bib; }", 1))
}

// TestCourseAlone has lists of which only one has elements, as far as a course permits this.
func TestCourseAlone(t *testing.T) {
	for line, change := range map[string]func(c *api.Course){
		"mats { end b; }":               func(c *api.Course) { c.Mats = []api.Mat{{Name: "b", Kind: api.EndM}} },
		"mats { pass a; start b; }":     func(c *api.Course) { c.Mats = []api.Mat{{Name: "a", Kind: api.PassM}, {Name: "b", Kind: api.StartM}} },
		"wave a 0:01;":                  func(c *api.Course) { c.Waves = []api.Wave{{Name: "a", Gun: second}} },
		"offence a 1:00:00;":            func(c *api.Course) { c.Offences = []api.Offence{{Name: "a", Time: hour}} },
		"offence b laps 2;":             func(c *api.Course) { c.Offences = []api.Offence{{Name: "b", Laps: 2}} },
		"offence c out;":                func(c *api.Course) { c.Offences = []api.Offence{{Name: "c", Out: true}} },
		"category a 0 to 0;":            func(c *api.Course) { c.Categories = []api.Category{{Name: "a"}} },
		"category a 119 to 120;":        func(c *api.Course) { c.Categories = []api.Category{{Name: "a", From: 119, To: 120}} },
		"protest fee 12 deadline 0:00;": func(c *api.Course) { c.Fee = 12 },
		"protest fee 0 deadline 0:12;":  func(c *api.Course) { c.Deadline = 12 * second },
		"faults { misses 1; strays 2; window 0:00.000003; residual 0:00.000004; drift 5; }": func(c *api.Course) {
			c.Faults = api.Faults{Misses: 1, Strays: 2, Window: 3, Residual: 4, Drift: 5}
		},
	} {
		c := smallest()
		change(&c)
		b, e := format.Course(c)
		lines := strings.Split(string(b), "\n")
		found := false
		for _, l := range lines {
			found = found || l == "  "+line
		}
		if e != api.OK || !found {
			t.Errorf("got %d:\n%s\nwant %s", e, b, line)
		}
	}
}

// eachCourse calls a function with random valid courses.
func eachCourse(t *testing.T, many int, call func(seed int64, c api.Course)) {
	t.Helper()
	valid := 0
	for seed := range int64(many) {
		if c := newAuthor(seed).course(); typing.Course(c) == api.OK {
			valid++
			call(seed, c)
		}
	}
	if valid < many*8/10 {
		t.Error(valid)
	}
}

func TestCoursesByTheChapter(t *testing.T) {
	eachCourse(t, 1500, func(seed int64, c api.Course) {
		want := chapterCourse(c)
		expectCourse(t, c, want)
		if same := newAuthor(seed).course(); !reflect.DeepEqual(c, same) {
			t.Errorf("%+v was %+v", c, same)
		}
	})
}

func TestCourseIsNewMemory(t *testing.T) {
	c := harbourCourse()
	first, _ := format.Course(c)
	for i := range first {
		first[i] = 'x'
	}
	expectCourse(t, c, harbour)
	if !reflect.DeepEqual(c, harbourCourse()) {
		t.Error("the course was changed")
	}
}

func TestCoursesThatAreNotValid(t *testing.T) {
	expectNoCourse(t, "the zero course", api.Course{}, api.ErrName)
	for _, x := range []struct {
		name   string
		change func(c *api.Course)
		want   api.Errno
	}{
		{"a name with a space", func(c *api.Course) { c.Name = "a b" }, api.ErrName},
		{"a keyword", func(c *api.Course) { c.Waves[0].Name = "ties" }, api.ErrName},
		{"two mats with one name", func(c *api.Course) { c.Mats[0].Name = "quay" }, api.ErrName},
		{"no kind", func(c *api.Course) { c.Mats[0].Kind = 0 }, api.ErrRange},
		{"an unknown kind", func(c *api.Course) { c.Mats[0].Kind = 4 }, api.ErrRange},
		{"an unknown mat", func(c *api.Course) { c.Legs[0].To = 5 }, api.ErrRange},
		{"an unknown timing", func(c *api.Course) { c.Distances[1].Timing = 4 }, api.ErrRange},
		{"an unknown mat of a route", func(c *api.Course) { c.Distances[2].Route[0].Mat = -1 }, api.ErrRange},
		{"an unknown extra", func(c *api.Course) { c.Distances[2].Extra = -2 }, api.ErrRange},
		{"an unknown distance", func(c *api.Course) { c.Prizes[0].Distance = 3 }, api.ErrRange},
		{"an unknown category", func(c *api.Course) { c.Prizes[0].Category = 2 }, api.ErrRange},
		{"a negative time", func(c *api.Course) { c.Deadline = -1 }, api.ErrRange},
		{"no steps", func(c *api.Course) { c.Ties = nil }, api.ErrRange},
		{"an unknown criterion", func(c *api.Course) { c.Ties[0].By = 6 }, api.ErrRange},
		{"an unknown variable", func(c *api.Course) { c.Ties[1].Cond.Var = 4 }, api.ErrRange},
		{"too many steps", func(c *api.Course) { c.Ties = make([]api.Step, 65) }, api.ErrLimit},
		{"too many waves", func(c *api.Course) { c.Waves = make([]api.Wave, 33) }, api.ErrLimit},
		{"a route without a leg", func(c *api.Course) { c.Legs = c.Legs[:6] }, api.ErrRoute},
		{"a cut-off that does not occur", func(c *api.Course) { c.Distances[0].Cutoffs[0].Lap = 10 }, api.ErrRoute},
	} {
		c := harbourCourse()
		x.change(&c)
		expectNoCourse(t, x.name, c, x.want)
	}
}

func TestAlteredCourses(t *testing.T) {
	wrong := 0
	for seed := range int64(4000) {
		c := altered(newAuthor(-seed), newAuthor(seed).course())
		if e := typing.Course(c); e != api.OK {
			wrong++
			expectNoCourse(t, "an altered course", c, e)
		} else {
			expectCourse(t, c, chapterCourse(c))
		}
	}
	if wrong < 500 || wrong > 3500 {
		t.Error(wrong)
	}
}

// Limits.

// spare returns the name with an index, which has so many bytes more than needed.
func spare(i, more int) string {
	return string(rune('a'+i/26)) + string(rune('a'+i%26)) + strings.Repeat("x", more)
}

// sized returns a valid course whose text has so many bytes.
func sized(t *testing.T, size int) api.Course {
	t.Helper()
	long := strings.Repeat("m", api.MaxName)
	c := smallest()
	c.Mats = []api.Mat{{Name: "line", Kind: api.StartM}, {Name: long, Kind: api.PassM}, {Name: "finish", Kind: api.EndM}}
	c.Legs = []api.Leg{{From: 0, To: 1}, {From: 1, To: 1}, {From: 1, To: 2}}
	for i := range api.MaxDistances {
		d := api.Distance{Name: spare(i, 0), Timing: api.GunT, Extra: -1, Route: passes(0, 1, 2)}
		for range api.MaxCutoffs {
			d.Cutoffs = append(d.Cutoffs, api.Cutoff{Mat: 1, Lap: 1})
		}
		c.Distances = append(c.Distances, d)
	}
	for i := range api.MaxWaves {
		c.Waves = append(c.Waves, api.Wave{Name: spare(i, 0)})
	}
	missing := size - len(chapterCourse(c))
	for i := range c.Distances {
		for missing > len(long)+2 && len(c.Distances[i].Route) < api.MaxRoute {
			c.Distances[i].Route = append(passes(0, 1), c.Distances[i].Route[1:]...)
			missing -= len(long) + 2
		}
	}
	for i := range c.Waves {
		more := min(missing, api.MaxName-2)
		c.Waves[i].Name = spare(i, more)
		missing -= more
	}
	if e := typing.Course(c); missing != 0 || e != api.OK {
		t.Fatal(size, missing, e)
	}
	return c
}

func TestLimitOfCourse(t *testing.T) {
	for _, n := range []int{40000, 65534, 65535, 65536} {
		c := sized(t, n)
		expectCourse(t, c, chapterCourse(c))
	}
	b, _ := format.Course(sized(t, 65536))
	if _, at, e := syntax.Course(b); len(b) != 65536 || e != api.OK {
		t.Error(len(b), at, e)
	}
	for _, n := range []int{65537, 65538, 65600, 70000} {
		expectNoCourse(t, "a long course", sized(t, n), api.ErrLimit)
	}
}

func TestErrorsOfLongCourses(t *testing.T) {
	for name, x := range map[string]struct {
		change func(c *api.Course)
		want   api.Errno
	}{
		"a wrong name":   {func(c *api.Course) { c.Name = "" }, api.ErrName},
		"a wrong number": {func(c *api.Course) { c.Fee = -1 }, api.ErrRange},
		"no steps":       {func(c *api.Course) { c.Ties = nil }, api.ErrRange},
		"no leg":         {func(c *api.Course) { c.Legs = c.Legs[1:] }, api.ErrRoute},
	} {
		c := sized(t, 65537)
		x.change(&c)
		expectNoCourse(t, name, c, x.want)
	}
}
