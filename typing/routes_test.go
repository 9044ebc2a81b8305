package typing_test

import (
	"fmt"
	"slices"
	"strings"
	"testing"

	"stopwatch/api"
	"stopwatch/typing"
)

// P7.3: limits, routes, and which error comes first

// routed returns a course with the starts s and t, the mats p, q and r on the way, the finishes e and f, legs such as "sp pe", and distances such as "s; p; e;".
func routed(t *testing.T, legs string, distances ...string) api.Course {
	t.Helper()
	text := "course a { mats { start s; start t; pass p; pass q; pass r; end e; end f; } "
	for _, l := range strings.Fields(legs) {
		text += "leg " + l[:1] + " to " + l[1:] + " 0:00 .. 1:00; "
	}
	for i, d := range distances {
		text += "distance " + numbered(i) + " gun { " + d + " } "
	}
	return course(t, text+"ties { bib; } faults { misses 0; strays 0; window 0:00; residual 0:00; drift 0; } protest fee 0 deadline 0:00; }")
}

// many returns elements with different names.
func many[T any](n int, element func(name string) T) (l []T) {
	for i := range n {
		l = append(l, element(numbered(i)))
	}
	return l
}

func TestLimitsOfLists(t *testing.T) {
	for _, x := range []struct {
		name   string
		most   int
		change func(c *api.Course, n int)
	}{
		{"mats", 40, func(c *api.Course, n int) {
			c.Mats = append(c.Mats, many(n-8, func(s string) api.Mat { return api.Mat{Name: s, Kind: api.EndM} })...)
		}},
		{"legs", 512, func(c *api.Course, n int) {
			c.Mats = many(40, func(s string) api.Mat { return api.Mat{Name: s, Kind: api.PassM} })
			c.Legs, c.Distances, c.Prizes = nil, nil, nil
			for i := range n {
				c.Legs = append(c.Legs, api.Leg{From: i / 40, To: i % 40})
			}
		}},
		{"distances", 8, func(c *api.Course, n int) {
			c.Distances = append(c.Distances, many(n-3, func(s string) api.Distance {
				return api.Distance{Name: s, Route: []api.Part{{Mat: 1}, {Mat: 6}}, Timing: api.GunT, Extra: -1}
			})...)
		}},
		{"waves", 32, func(c *api.Course, n int) {
			c.Waves = many(n, func(s string) api.Wave { return api.Wave{Name: s} })
		}},
		{"offences", 32, func(c *api.Course, n int) {
			c.Offences = many(n, func(s string) api.Offence { return api.Offence{Name: s} })
		}},
		{"categories", 32, func(c *api.Course, n int) {
			c.Categories = many(n, func(s string) api.Category { return api.Category{Name: s} })
		}},
		{"prizes", 32, func(c *api.Course, n int) {
			c.Prizes = nil
			for i := range n {
				c.Prizes = append(c.Prizes, api.Prize{Category: -1, Rank: 1 + i, Amount: 1})
			}
		}},
		{"cut-offs", 64, func(c *api.Course, n int) {
			c.Distances[0].Cutoffs = slices.Repeat(c.Distances[0].Cutoffs[:1], n)
		}},
		{"cut-offs of the last distance", 64, func(c *api.Course, n int) {
			c.Distances[2].Cutoffs = slices.Repeat(c.Distances[2].Cutoffs[:1], n)
		}},
	} {
		expectChange(t, fmt.Sprint(x.most, " ", x.name), func(c *api.Course) { x.change(c, x.most) }, api.OK)
		for _, n := range []int{x.most + 1, x.most + 2, 1000} {
			expectChange(t, fmt.Sprint(n, " ", x.name), func(c *api.Course) { x.change(c, n) }, api.ErrLimit)
		}
	}
}

// The limits come first, whatever the fields of the elements are.
func TestLimitsOfListsOfNothing(t *testing.T) {
	for i, x := range []struct {
		most   int
		course func(n int) api.Course
	}{
		{40, func(n int) api.Course { return api.Course{Mats: make([]api.Mat, n)} }},
		{512, func(n int) api.Course { return api.Course{Legs: make([]api.Leg, n)} }},
		{8, func(n int) api.Course { return api.Course{Distances: make([]api.Distance, n)} }},
		{32, func(n int) api.Course { return api.Course{Waves: make([]api.Wave, n)} }},
		{32, func(n int) api.Course { return api.Course{Offences: make([]api.Offence, n)} }},
		{32, func(n int) api.Course { return api.Course{Categories: make([]api.Category, n)} }},
		{32, func(n int) api.Course { return api.Course{Prizes: make([]api.Prize, n)} }},
		{64, func(n int) api.Course {
			return api.Course{Distances: []api.Distance{{}, {Cutoffs: make([]api.Cutoff, n)}}}
		}},
		{256, func(n int) api.Course { return api.Course{Distances: []api.Distance{{Route: make([]api.Part, n)}, {}}} }},
	} {
		for n, want := range map[int]api.Errno{x.most: api.ErrName, x.most + 1: api.ErrLimit, 100000: api.ErrLimit} {
			if e := typing.Course(x.course(n)); e != want {
				t.Errorf("%d, %d elements: got %d, want %d", i, n, e, want)
			}
		}
	}
}

func TestNumberOfParts(t *testing.T) {
	for inner, want := range map[int]api.Errno{249: api.OK, 250: api.OK, 251: api.ErrLimit, 1000: api.ErrLimit} { // 6 parts are around them
		parts := strings.Repeat("p; ", inner)
		for _, route := range []string{
			"s; p; p; p; p; " + parts + "e;",
			"s; laps 1 { p; laps 1 { " + parts + "} p; } e;",
			"laps 1 { laps 1 { laps 1 { s; p; " + parts + "} } } e;",
			"laps 1 { s; } laps 1 { p; } " + parts + "laps 1 { e; }",
		} {
			c := routed(t, "sp pp pe", "s; p; e;", route, "s; p; e;")
			if want == api.OK && len(chapterParts(c.Distances[1].Route)) != inner+6 {
				t.Fatal(route)
			}
			expectCourse(t, c, want)
		}
	}
	// 16 parts at each of 5 depths share their memory.
	c := routed(t, "sp pp pe", "s; p; e;")
	c.Distances[0].Route[1] = nested(5, api.Part{Mat: 2}, func(p api.Part) api.Part {
		return api.Part{Laps: 1, Parts: slices.Repeat([]api.Part{p}, 16)}
	})
	expectCourse(t, c, api.ErrLimit)
}

func TestDepthOfRoutes(t *testing.T) {
	mat := api.Part{Mat: 2}
	for _, x := range []struct {
		name  string
		layer func(p api.Part) api.Part
		want  api.Errno // if it is not too deep
	}{
		{"laps", func(p api.Part) api.Part { return api.Part{Laps: 1, Parts: []api.Part{p}} }, api.OK},
		{"laps of several parts", func(p api.Part) api.Part { return api.Part{Laps: 1, Parts: []api.Part{mat, p, mat}} }, api.OK},
		{"laps that begin with laps", func(p api.Part) api.Part { return api.Part{Laps: 1, Parts: []api.Part{p, mat}} }, api.OK},
		{"parts without laps", func(p api.Part) api.Part { return api.Part{Parts: []api.Part{p}} }, api.ErrRange},
		{"negative laps", func(p api.Part) api.Part { return api.Part{Laps: -1, Parts: []api.Part{mat, p}} }, api.ErrRange},
		{"laps with a mat", func(p api.Part) api.Part { return api.Part{Mat: 2, Laps: 1, Parts: []api.Part{p}} }, api.ErrRange},
	} {
		for layers, want := range map[int]api.Errno{14: x.want, 15: x.want, 16: x.want, 17: api.ErrLimit, 18: api.ErrLimit, 60000: api.ErrLimit} {
			for i := range 3 {
				c := routed(t, "sp pp pe", "s; p; e;", "s; p; e;", "s; p; e;")
				c.Distances[i].Route[1] = nested(layers, mat, x.layer)
				if e := typing.Course(c); e != want {
					t.Errorf("%d %s: got %d, want %d", layers, x.name, e, want)
				}
			}
		}
	}
}

func TestRoutes(t *testing.T) {
	for _, x := range []struct{ legs, distance string }{
		{"se", "s; e;"},
		{"tf", "t; f;"},
		{"se", "laps 1 { s; } laps 1 { e; }"},
		{"se", "laps 1 { laps 1 { s; e; } }"},
		{"sp pe", "s; p; e;"},
		{"sp pp pe", "s; p; p; e;"},
		{"sp pp pe", "laps 1 { s; laps 2 { p; } } e;"},
		{"sp pq qe", "s; laps 1 { p; q; } e;"},
		{"sp pq qp qe", "s; laps 2 { p; q; } e;"},
		{"sp pq qp qe", "s; p; laps 64 { q; p; } q; e;"},
		{"sp pq qp pe", "s; laps 2 { p; q; } p; e;"},
		{"sp pq qr rp re", "s; laps 3 { p; laps 1 { q; } r; } e;"},
		{"sp pq qr rq qp pe", "s; laps 2 { p; laps 2 { q; r; } q; } p; e;"},
		{"sp pp pq qe", "s; laps 2 { laps 3 { p; } } q; e;"},
		{"se", "s; e; cutoff s lap 1 0:00; cutoff e lap 1 0:00; cutoff s lap 1 1:00;"},
		{"sp pq qp qe", "s; laps 9 { p; q; } e; cutoff q lap 9 0:00; cutoff p lap 1 0:00; cutoff e lap 1 0:00;"},
		{"sp pq qp pe", "s; laps 9 { p; q; } p; e; cutoff p lap 10 0:00; cutoff q lap 9 0:00;"},
		{"sp pp pe", "s; p; e; extra p;"},
		{"sp pq qq qe", "s; laps 1 { p; laps 1 { q; } } e; extra q;"},
	} {
		c := routed(t, x.legs, x.distance)
		expectCourse(t, c, api.OK)
		// Each of these legs is needed, in this direction.
		for i, l := range c.Legs {
			c := copied(c)
			c.Legs[i] = api.Leg{From: l.To, To: l.From}
			if l.From == l.To {
				c.Legs[i].To = 6
			}
			if slices.Index(c.Legs, c.Legs[i]) == i && chapterLegs(c, c.Legs[i].From, c.Legs[i].To) == 1 {
				expectCourse(t, c, api.ErrRoute)
			}
			c.Legs = slices.Delete(c.Legs, i, i+1)
			expectCourse(t, c, api.ErrRoute)
		}
	}
}

// between returns all legs between the mats of routed.
func between() string {
	legs := ""
	for _, from := range "stpqref" {
		for _, to := range "stpqref" {
			legs += string(from) + string(to) + " "
		}
	}
	return legs
}

func TestInvalidRoutes(t *testing.T) {
	for _, distance := range []string{
		"s;", "p;", "e;", "laps 1 { s; }", "laps 2 { s; }", "laps 2 { e; }",
		"e; s;", "p; e;", "s; p;", "s; s;", "s; t;", "e; e;", "p; q;", "laps 2 { p; }",
		"p; q; e;", "s; p; q;", "s; p; t;", "f; p; e;", "e; p; s;",
		"s; s; e;", "s; t; e;", "s; f; e;", "s; e; e;", "s; e; f;", "s; p; t; e;", "s; p; f; p; e;", "s; e; p; e;", "s; p; s; p; e;",
		"laps 2 { s; e; }", "laps 2 { s; p; e; }", "laps 2 { s; p; } e;", "s; laps 2 { p; e; }", "s; laps 1 { p; e; } e;",
		"s; e; extra p;", "s; p; e; extra q;", "s; p; e; extra s;", "s; p; e; extra e;", "s; p; e; extra t;", "s; p; e; extra f;", "s; laps 2 { p; q; } e; extra r;",
		"s; e; cutoff s lap 2 0:00;", "s; e; cutoff e lap 2 0:00;", "s; e; cutoff p lap 1 0:00;", "s; p; e; cutoff p lap 2 0:00;", "s; p; e; cutoff t lap 1 0:00;",
		"s; p; e; cutoff p lap 1 0:00; cutoff q lap 1 0:00;", "s; p; e; cutoff q lap 1 0:00; cutoff p lap 1 0:00;",
		"s; laps 9 { p; q; } p; e; cutoff p lap 11 0:00;", "s; laps 9 { p; q; } p; e; cutoff q lap 10 0:00;", "s; laps 9 { p; q; } p; e; cutoff p lap 1125899906842624 0:00;",
	} {
		expectCourse(t, routed(t, between(), distance), api.ErrRoute)
		expectCourse(t, routed(t, between(), distance, "s; p; e;"), api.ErrRoute)
		expectCourse(t, routed(t, between(), "s; p; e;", "t; e;", distance), api.ErrRoute)
	}
	c := routed(t, between(), "s; p; e;", "s; p; e;")
	c.Distances[1].Route = nil
	expectCourse(t, c, api.ErrRoute)
	c.Distances[1].Route = []api.Part{}
	expectCourse(t, c, api.ErrRoute)
}

func TestLengthOfRoutes(t *testing.T) {
	for route, want := range map[string]api.Errno{
		strings.Repeat("p; ", 253):                                        api.OK,
		strings.Repeat("p; ", 254):                                        api.OK,
		"laps 64 { p; } laps 64 { p; } laps 64 { p; } laps 62 { p; }":     api.OK,
		"laps 64 { p; } laps 64 { p; } laps 64 { p; } laps 63 { p; }":     api.ErrRoute,
		"laps 2 { " + strings.Repeat("p; ", 127) + "}":                    api.OK,
		"laps 2 { " + strings.Repeat("p; ", 128) + "}":                    api.ErrRoute,
		"laps 63 { laps 4 { p; } } p; p;":                                 api.OK,
		"laps 63 { laps 4 { p; } } p; p; p;":                              api.ErrRoute,
		"p; p; p; laps 63 { laps 4 { p; } }":                              api.ErrRoute,
		"laps 51 { laps 5 { p; } }":                                       api.ErrRoute,
		"laps 64 { laps 64 { p; } }":                                      api.ErrRoute,
		"laps 64 { " + strings.Repeat("p; ", 200) + "}":                   api.ErrRoute,
		"laps 1 { laps 64 { p; } laps 64 { p; } laps 64 { p; } } p;":      api.OK,
		"laps 2 { laps 64 { p; } laps 64 { p; } laps 64 { p; } } p;":      api.ErrRoute,
		strings.Repeat("laps 2 { ", 7) + "p;" + strings.Repeat(" }", 7):   api.OK,
		strings.Repeat("laps 2 { ", 8) + "p;" + strings.Repeat(" }", 8):   api.ErrRoute,
		strings.Repeat("laps 64 { ", 16) + "p;" + strings.Repeat("}", 16): api.ErrRoute, // 2^96
		strings.Repeat("laps 64 { ", 11) + "p;" + strings.Repeat("}", 11): api.ErrRoute, // 2^66
		strings.Repeat("laps 64 { p; ", 16) + strings.Repeat("}", 16):     api.ErrRoute,
	} {
		for _, distances := range [][]string{{"s; " + route + " e;"}, {"s; p; e;", "s; " + route + " e; extra p;"}} {
			if e := typing.Course(routed(t, "sp pp pe", distances...)); e != want {
				t.Errorf("%.100s: got %d, want %d", route, e, want)
			}
		}
	}
}

// Routes that would be valid if they ended with their first 256 positions.
func TestRoutesThatGoOn(t *testing.T) {
	most := "s; laps 2 { laps 63 { p; p; } p; } e;"
	expectCourse(t, routed(t, between(), most), api.OK)
	expectCourse(t, routed(t, between(), "laps 1 { "+most+" }"), api.OK)
	for _, route := range []string{"laps 2 { " + most + " }", "laps 64 { " + most + " }", "laps 64 { laps 64 { " + most + " } }", most + " e;", most + " " + most, "laps 1 { " + most + " } laps 1 { e; }"} {
		expectCourse(t, routed(t, between(), route), api.ErrRoute)
	}
}

// Which error comes first.

// fault is something that is wrong in the course spring.
type fault struct {
	stage  int // of the chapter's order
	e      api.Errno
	name   string
	change func(c *api.Course)
}

func faults() []fault {
	part := api.Part{Mat: 3}
	distance := api.Distance{Name: "last", Timing: api.GunT, Extra: -1, Route: []api.Part{{Mat: 0}, part, {Mat: 5}}}
	add := func(d api.Distance) func(c *api.Course) {
		return func(c *api.Course) { d.Name = numbered(len(c.Distances)); c.Distances = append(c.Distances, d) }
	}
	deep, long, late, empty := distance, distance, distance, distance
	deep.Route = []api.Part{{Mat: 0}, nested(17, part, func(p api.Part) api.Part { return api.Part{Laps: 1, Parts: []api.Part{p}} }), {Mat: 5}}
	long.Route = slices.Repeat([]api.Part{part}, 257)
	late.Cutoffs = slices.Repeat([]api.Cutoff{{Mat: 3, Lap: 1}}, 65)
	empty.Route = nil
	wrongPart, wrongCutoff, wrongTiming, wrongExtra := distance, distance, distance, distance
	wrongPart.Route = []api.Part{{Mat: 0}, {Laps: 1}, {Mat: 5}}
	wrongCutoff.Cutoffs = []api.Cutoff{{Mat: 3}}
	wrongTiming.Timing = 4
	wrongExtra.Extra = -2
	again, nowhere := distance, distance
	again.Extra = 3
	nowhere.Cutoffs = []api.Cutoff{{Mat: 2, Lap: 1}}
	return []fault{
		{1, api.ErrLimit, "mats", func(c *api.Course) {
			c.Mats = append(c.Mats, many(40, func(s string) api.Mat { return api.Mat{Name: s, Kind: 1} })...)
		}},
		{1, api.ErrLimit, "legs", func(c *api.Course) { c.Legs = append(c.Legs, make([]api.Leg, 512)...) }},
		{1, api.ErrLimit, "waves", func(c *api.Course) { c.Waves = append(c.Waves, make([]api.Wave, 32)...) }},
		{1, api.ErrLimit, "offences", func(c *api.Course) { c.Offences = append(c.Offences, make([]api.Offence, 32)...) }},
		{1, api.ErrLimit, "categories", func(c *api.Course) { c.Categories = append(c.Categories, make([]api.Category, 32)...) }},
		{1, api.ErrLimit, "prizes", func(c *api.Course) { c.Prizes = append(c.Prizes, make([]api.Prize, 32)...) }},
		{1, api.ErrLimit, "distances", func(c *api.Course) { c.Distances = append(c.Distances, make([]api.Distance, 8)...) }},
		{1, api.ErrLimit, "depth", add(deep)},
		{1, api.ErrLimit, "parts", add(long)},
		{1, api.ErrLimit, "cut-offs", add(late)},
		{2, api.ErrName, "name of the course", func(c *api.Course) { c.Name = "Spring" }},
		{2, api.ErrName, "name of a mat", func(c *api.Course) { c.Mats = append(c.Mats, api.Mat{Kind: 2}) }},
		{2, api.ErrName, "name of a wave", func(c *api.Course) { c.Waves = append(c.Waves, api.Wave{Name: "laps"}) }},
		{2, api.ErrName, "two offences", func(c *api.Course) { c.Offences = append(c.Offences, api.Offence{Name: c.Offences[0].Name}) }},
		{2, api.ErrName, "two categories", func(c *api.Course) { c.Categories = append(c.Categories, c.Categories[1]) }},
		{2, api.ErrName, "two distances", func(c *api.Course) { c.Distances = append(c.Distances, c.Distances[0]) }},
		{3, api.ErrRange, "kind of a mat", func(c *api.Course) { c.Mats = append(c.Mats, api.Mat{Name: "more"}) }},
		{3, api.ErrRange, "leg", func(c *api.Course) { c.Legs = append(c.Legs, api.Leg{From: 7, To: 0, Min: 2, Max: 1}) }},
		{3, api.ErrRange, "two legs", func(c *api.Course) { c.Legs = append(c.Legs, c.Legs[0]) }},
		{3, api.ErrRange, "part", add(wrongPart)},
		{3, api.ErrRange, "cut-off", add(wrongCutoff)},
		{3, api.ErrRange, "timing", add(wrongTiming)},
		{3, api.ErrRange, "extra", add(wrongExtra)},
		{3, api.ErrRange, "wave", func(c *api.Course) { c.Waves = append(c.Waves, api.Wave{Name: "more", Gun: -1}) }},
		{3, api.ErrRange, "offence", func(c *api.Course) { c.Offences = append(c.Offences, api.Offence{Name: "more", Laps: 65}) }},
		{3, api.ErrRange, "category", func(c *api.Course) { c.Categories = append(c.Categories, api.Category{Name: "more", From: 1}) }},
		{3, api.ErrRange, "prize", func(c *api.Course) { c.Prizes = append(c.Prizes, api.Prize{}) }},
		{3, api.ErrRange, "faults", func(c *api.Course) { c.Faults.Drift = -1 }},
		{3, api.ErrRange, "fee", func(c *api.Course) { c.Fee = -1 }},
		{3, api.ErrRange, "deadline", func(c *api.Course) { c.Deadline = -1 }},
		{4, api.ErrRange, "no steps", func(c *api.Course) { c.Ties = nil }},
		{4, api.ErrRange, "wrong step", func(c *api.Course) { c.Ties = append(c.Ties, by(6)) }},
		{4, api.ErrRange, "wrong condition", func(c *api.Course) { c.Ties = append(c.Ties, ifThen(and(), by(1))) }},
		{4, api.ErrLimit, "many steps", func(c *api.Course) { c.Ties = make([]api.Step, 65) }},
		{4, api.ErrLimit, "deep condition", func(c *api.Course) { c.Ties = []api.Step{ifThen(nested(17, atLeast(1, 1), not), by(1))} }},
		{5, api.ErrRoute, "no route", add(empty)},
		{5, api.ErrRoute, "no leg", func(c *api.Course) { c.Legs = slices.Delete(c.Legs, 2, 3) }},
		{5, api.ErrRoute, "kinds", func(c *api.Course) { c.Mats[3].Kind = api.EndM }},
		{5, api.ErrRoute, "laps", func(c *api.Course) { c.Distances[0].Route[1].Laps = 64 }},
		{5, api.ErrRoute, "extra without a leg", add(again)},
		{5, api.ErrRoute, "cut-off elsewhere", add(nowhere)},
	}
}

func TestOrderOfErrors(t *testing.T) {
	for _, first := range faults() {
		expectChange(t, first.name, first.change, first.e)
		for _, second := range faults() {
			if first.stage >= second.stage {
				continue
			}
			both := func(c *api.Course) { second.change(c); first.change(c) }
			expectChange(t, first.name+" and "+second.name, both, first.e)
		}
	}
}

// Random courses.

func TestRandomCourses(t *testing.T) {
	counts, cases := map[api.Errno]int{}, 0
	for seed := range int64(4000) {
		a := newAuthor(seed)
		c := a.course()
		want := chapterCourse(c)
		if want == api.OK {
			cases++
		}
		expectCourse(t, c, want)
		for range 3 {
			x := altered(a, c)
			want := chapterCourse(x)
			before := copied(x)
			expectCourse(t, x, want)
			if !same(x, before) {
				t.Errorf("%s was %s", short(x), short(before))
			}
			counts[want]++
		}
	}
	if cases < 3000 || counts[api.OK] < 2000 || counts[api.ErrName] < 500 || counts[api.ErrRange] < 2000 || counts[api.ErrRoute] < 200 {
		t.Error(cases, counts)
	}
}
