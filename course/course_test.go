package course_test

import (
	"math"
	"reflect"
	"slices"
	"strconv"
	"strings"
	"testing"

	"stopwatch/api"
	"stopwatch/course"
)

func expectRoute(t *testing.T, c api.Course, distance, extra int, want string, e api.Errno) {
	t.Helper()
	mats, f := course.Route(c, distance, extra)
	if letters(mats) != want || f != e {
		t.Errorf("distance %d, %d penalty laps: got %s, %d, want %s, %d", distance, extra, letters(mats), f, want, e)
	}
}

func expectPosition(t *testing.T, c api.Course, distance, extra, mat, lap, want int, e api.Errno) {
	t.Helper()
	at, f := course.Position(c, distance, extra, mat, lap)
	if at != want || f != e {
		t.Errorf("distance %d, %d penalty laps, mat %d, lap %d: got %d, %d, want %d, %d", distance, extra, mat, lap, at, f, want, e)
	}
}

func expectBetween(t *testing.T, c api.Course, distance, extra, from, to int, want api.Span, e api.Errno) {
	t.Helper()
	s, f := course.Between(c, distance, extra, from, to)
	if s != want || f != e {
		t.Errorf("distance %d, %d penalty laps, %d to %d: got %v, %d, want %v, %d", distance, extra, from, to, s, f, want, e)
	}
}

func expectFinish(t *testing.T, c api.Course, distance int, want api.Span, ok bool, e api.Errno) {
	t.Helper()
	s, k, f := course.Finish(c, distance)
	if s != want || k != ok || f != e {
		t.Errorf("distance %d: got %v, %t, %d, want %v, %t, %d: %+v", distance, s, k, f, want, ok, e, c)
	}
}

func expectUnused(t *testing.T, c api.Course, want string, e api.Errno) {
	t.Helper()
	mats, f := course.Unused(c)
	if letters(mats) != want || f != e {
		t.Errorf("got %s, %d, want %s, %d: %+v", letters(mats), f, want, e, c.Distances)
	}
}

// expectError says that all functions return an error, if a distance is concerned.
func expectError(t *testing.T, c api.Course, distance, extra int, e api.Errno) {
	t.Helper()
	expectRoute(t, c, distance, extra, "", e)
	for _, n := range []int{-1, 0, 1, 3} {
		expectPosition(t, c, distance, extra, n, n, 0, e)
		expectBetween(t, c, distance, extra, n, n, api.Span{}, e)
		expectBetween(t, c, distance, extra, n, 0, api.Span{}, e)
	}
}

// P9.1: Route and Position

func TestExamplesOfTheChapter(t *testing.T) {
	expectError(t, api.Course{}, 0, 0, api.ErrName)
	expectFinish(t, api.Course{}, 0, api.Span{}, false, api.ErrName)
	expectUnused(t, api.Course{}, "", api.ErrName)
	c := read(t, anyLegs(), "s; q; e;", "s; laps 2 { q; } e; extra q;")
	expectError(t, c, -1, 0, api.ErrCourse)
	expectError(t, c, 0, 1, api.ErrCourse)
	expectPosition(t, c, 0, 0, 1, 0, 0, api.ErrCourse)
	expectRoute(t, c, 1, 1, "sqqqe", api.OK)
	expectPosition(t, c, 1, 1, 1, 3, 3, api.OK)
	expectBetween(t, c, 1, 1, 3, 3, api.Span{}, api.OK)
	expectUnused(t, read(t, anyLegs(), "s; p; q; r; e;", "t; f;"), "", api.OK)
	expectFinish(t, read(t, "sq 5 9, qe 5 9", "s; q; e; cutoff e lap 1 0:09;"), 0, api.Span{}, false, api.OK)
}

func TestRoute(t *testing.T) {
	for _, x := range []struct {
		distance string
		extra    int
		want     string
	}{
		{"s; e;", 0, "se"},
		{"t; f;", 0, "tf"},
		{"s; p; e;", 0, "spe"},
		{"s; q; p; r; q; e;", 0, "sqprqe"},
		{"laps 1 { s; e; }", 0, "se"},
		{"laps 1 { s; } laps 1 { e; }", 0, "se"},
		{"s; laps 1 { q; } e;", 0, "sqe"},
		{"s; laps 3 { q; } e;", 0, "sqqqe"},
		{"s; laps 3 { q; r; } e;", 0, "sqrqrqre"},
		{"s; laps 2 { q; r; } laps 2 { p; q; } e;", 0, "sqrqrpqpqe"},
		{"s; laps 2 { q; laps 3 { r; } p; } e;", 0, "sqrrrpqrrrpe"},
		{"s; laps 2 { laps 2 { q; } laps 2 { r; } } e;", 0, "sqqrrqqrre"},
		{"s; laps 2 { laps 1 { laps 2 { q; r; } p; } q; } e;", 0, "sqrqrpqqrqrpqe"},
		{"laps 1 { s; laps 2 { q; } } f;", 0, "sqqf"},
		{"s; q; e; extra q;", 0, "sqe"},
		{"s; q; e; extra q;", 1, "sqqe"},
		{"s; q; e; extra q;", 2, "sqqqe"},
		{"s; p; e; extra p;", 2, "spppe"},
		{"s; q; q; r; e; extra q;", 1, "sqqqre"},
		{"s; q; r; p; e; extra q;", 1, "sqqrpe"},
		{"s; q; r; p; e; extra r;", 2, "sqrrrpe"},
		{"s; q; r; p; e; extra p;", 3, "sqrppppe"},
		{"s; laps 3 { q; r; } e; extra q;", 1, "sqrqrqqre"},
		{"s; laps 3 { q; r; } e; extra q;", 4, "sqrqrqqqqqre"},
		{"s; laps 3 { q; r; } e; extra r;", 2, "sqrqrqrrre"},
		{"s; laps 2 { q; r; } q; p; e; extra q;", 2, "sqrqrqqqpe"},
		{"s; laps 2 { q; laps 2 { r; } } p; e; extra r;", 1, "sqrrqrrrpe"},
		{"laps 1 { s; q; e; } extra q;", 3, "sqqqqe"},
		{"s; " + strings.Repeat("laps 1 { ", 16) + "q; r;" + strings.Repeat(" }", 16) + " e;", 0, "sqre"},
		{"s; " + strings.Repeat("laps 2 { ", 3) + "q;" + strings.Repeat(" r; }", 3) + " e; extra q;", 1, "sqrqrrqrqrrrqrqrrqrqqrrre"},
	} {
		c := read(t, anyLegs(), "s; r; e; extra r;", x.distance, "t; p; f; extra p;")
		expectRoute(t, c, 1, x.extra, x.want, api.OK)
		expectRoute(t, c, 0, x.extra, "s"+strings.Repeat("r", x.extra+1)+"e", api.OK)
		expectRoute(t, c, 2, x.extra, "t"+strings.Repeat("p", x.extra+1)+"f", api.OK)
	}
}

func TestLongestRoutes(t *testing.T) {
	for _, x := range []struct{ distance, before, again, after string }{
		{"s; q; e; extra q;", "sq", "q", "e"},
		{"s; laps 2 { q; r; } e; extra q;", "sqrq", "q", "re"},
		{"s; laps 64 { q; r; } laps 62 { r; p; } e; extra r;", "s" + strings.Repeat("qr", 64) + strings.Repeat("rp", 61) + "r", "r", "pe"},
		{"s; laps 63 { laps 2 { q; r; } } r; e; extra q;", "s" + strings.Repeat("qr", 125) + "q", "q", "rre"},
		{"s; laps 63 { laps 2 { q; r; } } r; r; e; extra q;", "s" + strings.Repeat("qr", 125) + "q", "q", "rrre"},
	} {
		c := read(t, anyLegs(), x.distance)
		many := len(x.before) + len(x.after)
		for extra := range 257 - many {
			expectRoute(t, c, 0, extra, x.before+strings.Repeat(x.again, extra)+x.after, api.OK)
		}
		for _, extra := range []int{257 - many, 258 - many, 255, 256, 257, 1000, 1 << 32, 1 << 40, math.MaxInt - many, math.MaxInt - 1, math.MaxInt} {
			expectError(t, c, 0, extra, api.ErrLimit)
		}
		for _, extra := range []int{-1, -2, -255, -256, -257, -1 << 32, math.MinInt, math.MinInt + 1, math.MinInt + 256} {
			expectError(t, c, 0, extra, api.ErrCourse)
		}
	}
}

func TestRoutesWithoutPenaltyLaps(t *testing.T) {
	for _, distance := range []string{"s; e;", "s; q; e;", "s; laps 63 { laps 2 { q; r; } } q; r; e;"} {
		c := read(t, anyLegs(), "s; q; e; extra q;", distance, "s; q; e; extra q;")
		for _, extra := range []int{1, 2, 253, 254, 255, 256, 257, math.MaxInt, -1, -2, -256, math.MinInt} {
			expectError(t, c, 1, extra, api.ErrCourse)
		}
		if mats, e := course.Route(c, 1, 0); len(mats) < 2 || e != api.OK {
			t.Error(letters(mats), e)
		}
	}
}

func TestUnknownDistances(t *testing.T) {
	for many := range 9 {
		c := read(t, anyLegs(), slices.Repeat([]string{"s; q; e; extra q;"}, many)...)
		for _, distance := range []int{-1, many, many + 1, 8, 9, -many - 1, 1 << 32, -1 << 32, math.MaxInt, math.MinInt} {
			expectFinish(t, c, distance, api.Span{}, false, api.ErrCourse)
			for _, extra := range []int{0, 1, -1, 1000, math.MaxInt} {
				expectError(t, c, distance, extra, api.ErrCourse)
			}
		}
		for distance := range many {
			expectRoute(t, c, distance, 0, "sqe", api.OK)
		}
	}
}

// faults are courses that typing.Course does not accept, all because of what no distance of the course needs.
func faults(t *testing.T) map[api.Errno][]api.Course {
	t.Helper()
	faulty := func(changes ...func(c *api.Course)) (l []api.Course) {
		for _, change := range changes {
			c := read(t, anyLegs(), "s; q; e; extra q;", "s; e;")
			change(&c)
			l = append(l, c)
		}
		return l
	}
	return map[api.Errno][]api.Course{
		api.ErrLimit: faulty(
			func(c *api.Course) { c.Mats = slices.Repeat(c.Mats, 6) },
			func(c *api.Course) { c.Legs = slices.Repeat(c.Legs, 11) },
			func(c *api.Course) { c.Distances = slices.Repeat(c.Distances, 5) },
			func(c *api.Course) { c.Distances[1].Route = make([]api.Part, 257) },
			func(c *api.Course) { c.Ties = slices.Repeat(c.Ties, 65) },
		),
		api.ErrName: faulty(
			func(c *api.Course) { c.Name = "" },
			func(c *api.Course) { c.Mats[4].Name = "s" },
			func(c *api.Course) { c.Distances[1].Name = "d0" },
			func(c *api.Course) { c.Waves = []api.Wave{{Name: "Elite"}} },
		),
		api.ErrRange: faulty(
			func(c *api.Course) { c.Legs[0].Min = -1 },
			func(c *api.Course) { c.Legs = append(c.Legs, c.Legs[0]) },
			func(c *api.Course) { c.Distances[1].Extra = -2 },
			func(c *api.Course) { c.Distances[1].Timing = 0 },
			func(c *api.Course) { c.Prizes = []api.Prize{{}} },
			func(c *api.Course) { c.Faults.Misses = 17 },
			func(c *api.Course) { c.Ties = nil },
		),
		api.ErrRoute: faulty(
			func(c *api.Course) { c.Distances[1].Route = nil },
			func(c *api.Course) { c.Distances[1].Route = c.Distances[1].Route[:1] },
			func(c *api.Course) { c.Distances[1].Extra = 0 },
			func(c *api.Course) { c.Distances[1].Cutoffs = []api.Cutoff{{Mat: 0, Lap: 1}} },
		),
	}
}

// An invalid course comes before everything else.
func TestInvalidCourses(t *testing.T) {
	for e, l := range faults(t) {
		for _, c := range l {
			expectUnused(t, c, "", e)
			for _, distance := range []int{0, 1, 2, -1, math.MaxInt, math.MinInt} {
				expectFinish(t, c, distance, api.Span{}, false, e)
				for _, extra := range []int{0, 1, -1, 300} {
					expectError(t, c, distance, extra, e)
				}
			}
		}
	}
}

func TestPosition(t *testing.T) {
	c := read(t, anyLegs(), "s; e;", "s; laps 2 { q; laps 2 { r; } } q; p; e; extra r;", "t; p; q; f; extra p;")
	for _, x := range []struct{ extra, mat, lap, want int }{
		// s q r r q r r q p e
		{0, 3, 1, 0}, {0, 1, 1, 1}, {0, 2, 1, 2}, {0, 2, 2, 3}, {0, 1, 2, 4}, {0, 2, 3, 5}, {0, 2, 4, 6}, {0, 1, 3, 7}, {0, 0, 1, 8}, {0, 5, 1, 9},
		// s q r r q r r r r q p e
		{2, 3, 1, 0}, {2, 1, 1, 1}, {2, 2, 1, 2}, {2, 2, 2, 3}, {2, 1, 2, 4}, {2, 2, 3, 5}, {2, 2, 4, 6}, {2, 2, 5, 7}, {2, 2, 6, 8}, {2, 1, 3, 9}, {2, 0, 1, 10}, {2, 5, 1, 11},
		{246, 2, 250, 252}, {246, 1, 3, 253}, {246, 5, 1, 255},
	} {
		expectPosition(t, c, 1, x.extra, x.mat, x.lap, x.want, api.OK)
	}
	expectPosition(t, c, 2, 0, 0, 1, 1, api.OK)
	expectPosition(t, c, 2, 5, 0, 6, 6, api.OK)
	expectPosition(t, c, 2, 5, 1, 1, 7, api.OK)
}

func TestNoPosition(t *testing.T) {
	c := read(t, anyLegs(), "s; laps 3 { q; } e; extra q;", "t; p; f;")
	for _, extra := range []int{0, 1, 2, 251} {
		for mat, laps := range []int{0, 3 + extra, 0, 1, 0, 1, 0} { // how often the mats are passed
			for _, lap := range []int{0, -1, -laps, laps + 1, laps + 2, 1000, 1<<32 + 1, math.MaxInt, math.MinInt, math.MinInt + 1} {
				if lap < 1 || lap > laps {
					expectPosition(t, c, 0, extra, mat, lap, 0, api.ErrCourse)
				}
			}
		}
		for _, mat := range []int{-1, -2, 7, 8, 40, 1<<32 + 1, math.MaxInt, math.MinInt} {
			for _, lap := range []int{0, 1, 2, -1} {
				expectPosition(t, c, 0, extra, mat, lap, 0, api.ErrCourse)
			}
		}
	}
}

// P9.3

func TestUnused(t *testing.T) {
	for _, x := range []struct {
		distances []string
		want      string
	}{
		{nil, matNames},
		{[]string{"s; e;"}, "pqrtf"},
		{[]string{"t; f;"}, "pqrse"},
		{[]string{"s; e;", "t; f;"}, "pqr"},
		{[]string{"s; f;", "t; e;"}, "pqr"},
		{[]string{"s; p; e;"}, "qrtf"},
		{[]string{"s; q; e;"}, "prtf"},
		{[]string{"s; laps 1 { q; } e;"}, "prtf"},
		{[]string{"laps 1 { laps 1 { s; } laps 2 { q; } e; }"}, "prtf"},
		{[]string{"s; laps 2 { r; laps 2 { q; laps 2 { p; } } } e;"}, "tf"},
		{[]string{"s; laps 2 { r; laps 2 { q; } } e;"}, "ptf"},
		{[]string{"s; laps 3 { r; } laps 2 { p; } e;"}, "qtf"},
		{[]string{"s; q; e;", "s; q; e;", "t; r; e;"}, "pf"},
		{[]string{"s; q; e;", "s; q; e;", "t; r; e;", "t; p; e;"}, "f"},
		{[]string{"s; p; q; r; e;", "t; f;"}, ""},
		{[]string{"t; f;", "s; r; q; p; e; extra q; "}, ""},
		{[]string{"s; e;", "s; e;", "s; e;", "s; e;", "s; e;", "s; e;", "s; e;", "t; q; f;"}, "pr"},
	} {
		expectUnused(t, read(t, anyLegs(), x.distances...), x.want, api.OK)
	}
}

func TestUnusedOfManyMats(t *testing.T) {
	c := read(t, anyLegs(), "s; r; e;")
	var want []int
	for i := range api.MaxMats {
		if i >= len(c.Mats) {
			c.Mats = append(c.Mats, api.Mat{Name: "m" + strconv.Itoa(i), Kind: 1 + i%3})
		}
		if i != 2 && i != 3 && i != 5 {
			want = append(want, i)
		}
	}
	if mats, e := course.Unused(c); !slices.Equal(mats, want) || e != api.OK {
		t.Errorf("got %v, %d, want %v", mats, e, want)
	}
}

// All functions, compared with the chapter.

func TestRandomCourses(t *testing.T) {
	many := map[api.Errno]int{}
	eachCourse(t, 500, func(a author, c api.Course, _ func() api.Course) {
		want := chapterUnused(c)
		if mats, e := course.Unused(c); !slices.Equal(mats, want) || e != api.OK {
			t.Errorf("got %v, %d, want %v: %+v", mats, e, want, c)
		}
		for distance := -1; distance <= len(c.Distances); distance++ {
			s, ok, e := chapterFinish(c, distance)
			expectFinish(t, c, distance, s, ok, e)
			for _, extra := range []int{-1, 0, 1, a.Intn(8), a.Intn(300)} {
				many[compare(t, a, c, distance, extra)]++
			}
		}
	})
	for _, e := range []api.Errno{api.OK, api.ErrCourse, api.ErrLimit} {
		if many[e] < 80 {
			t.Error(e, many[e])
		}
	}
}

// compare compares the functions about a route with the chapter, and returns the error of the route.
func compare(t *testing.T, a author, c api.Course, distance, extra int) api.Errno {
	t.Helper()
	route, e := chapterRoute(c, distance, extra)
	mats, f := course.Route(c, distance, extra)
	if !slices.Equal(mats, route) || e != f {
		t.Errorf("distance %d, %d penalty laps: got %v, %d, want %v, %d: %+v", distance, extra, mats, f, route, e, c)
	}
	for range 6 {
		from, to := a.Intn(len(route)+2)-1, a.Intn(len(route)+2)-1
		s, e := chapterBetween(c, distance, extra, from, to)
		expectBetween(t, c, distance, extra, from, to, s, e)
		mat, lap := a.Intn(len(c.Mats)+2)-1, a.Intn(1+a.Intn(20))
		at, e := chapterPosition(c, distance, extra, mat, lap)
		expectPosition(t, c, distance, extra, mat, lap, at, e)
	}
	return e
}

func TestPurity(t *testing.T) {
	eachCourse(t, 200, func(a author, c api.Course, again func() api.Course) {
		for distance := range c.Distances {
			extra := min(1, c.Distances[distance].Extra+1)
			first, e := course.Route(c, distance, extra)
			kept := slices.Clone(first)
			course.Position(c, distance, extra, a.Intn(7), 1)
			course.Between(c, distance, extra, 0, 1)
			course.Finish(c, distance)
			second, f := course.Route(c, distance, extra)
			if !slices.Equal(first, kept) || !slices.Equal(second, kept) || e != f {
				t.Errorf("got %v, then %v, and %v", kept, first, second)
			}
			clear(second)
		}
		unused, _ := course.Unused(c)
		clear(unused)
		if !reflect.DeepEqual(c, again()) {
			t.Errorf("the course was changed: %+v", c)
		}
	})
}
