package course_test

import (
	"math"
	"slices"
	"testing"

	"stopwatch/api"
	"stopwatch/course"
)

// P9.2: Between and Finish

// seconds returns a span between two numbers of seconds.
func seconds(lo, hi int) api.Span { return api.Span{Lo: lo * 1000000, Hi: hi * 1000000} }

func TestBetween(t *testing.T) {
	// The route with one penalty lap is s q r q q r e.
	c := read(t, "st 9 9, sq 1 10, qs 9 9, qr 2 20, rq 0 30, qq 3 3, re 4 59, er 9 9, rr 9 9, se 8 9, qe 9 9", "s; e;", "s; laps 2 { q; r; } e; extra q;")
	for _, x := range []struct {
		extra, from, to int
		want            api.Span
	}{
		{0, 0, 1, seconds(1, 10)},
		{0, 0, 2, seconds(3, 30)},
		{0, 0, 3, seconds(3, 60)},
		{0, 0, 4, seconds(5, 80)},
		{0, 0, 5, seconds(9, 139)},
		{0, 1, 2, seconds(2, 20)},
		{0, 1, 3, seconds(2, 50)},
		{0, 1, 5, seconds(8, 129)},
		{0, 2, 3, seconds(0, 30)},
		{0, 2, 4, seconds(2, 50)},
		{0, 3, 4, seconds(2, 20)},
		{0, 4, 5, seconds(4, 59)},
		{1, 0, 3, seconds(3, 60)},
		{1, 0, 4, seconds(6, 63)},
		{1, 3, 4, seconds(3, 3)},
		{1, 3, 5, seconds(5, 23)},
		{1, 2, 6, seconds(9, 112)},
		{1, 0, 6, seconds(12, 142)},
		{2, 0, 7, seconds(15, 145)},
		{2, 3, 5, seconds(6, 6)},
		{250, 3, 253, seconds(750, 750)},
		{250, 0, 255, seconds(759, 889)},
	} {
		expectBetween(t, c, 1, x.extra, x.from, x.to, x.want, api.OK)
	}
	expectBetween(t, c, 0, 0, 0, 1, seconds(8, 9), api.OK)
	for _, extra := range []int{0, 1, 250} {
		for at := range 6 + extra {
			expectBetween(t, c, 1, extra, at, at, api.Span{}, api.OK)
		}
	}
}

func TestBetweenNoPositions(t *testing.T) {
	c := read(t, anyLegs(), "s; e;", "s; laps 2 { q; r; } e; extra q;", "s; laps 64 { q; r; } e;")
	for _, extra := range []int{0, 1, 7} {
		last := 5 + extra
		for _, x := range [][2]int{
			{-1, 0}, {-1, -1}, {-1, last}, {-2, -1}, {math.MinInt, 0}, {math.MinInt, math.MaxInt}, {math.MinInt, math.MinInt},
			{1, 0}, {2, 0}, {last, 0}, {last, last - 1}, {0, -1}, {3, -1}, {0, math.MinInt},
			{0, last + 1}, {last, last + 1}, {last + 1, last + 1}, {last + 1, last}, {last + 1, 0}, {last + 2, last + 3},
			{0, math.MaxInt}, {math.MaxInt, math.MaxInt}, {math.MaxInt, 0}, {math.MaxInt - 1, math.MaxInt}, {1 << 32, 1 << 32}, {0, 1 << 32}, {1<<32 + 1, 1},
		} {
			expectBetween(t, c, 1, extra, x[0], x[1], api.Span{}, api.ErrCourse)
		}
		expectBetween(t, c, 1, extra, 0, last, api.Span{Lo: last * 1000000, Hi: last * 2000000}, api.OK)
	}
}

// long returns a course whose route leads from s to q, 64 times from q to q, and to e. Only the legs from q to q take time.
func long(t *testing.T, lo, hi int) api.Course {
	t.Helper()
	c := read(t, "sq 0 0, qe 0 0, qq 0 0", "s; q; laps 64 { q; } e; extra q;")
	c.Legs[2].Min, c.Legs[2].Max = lo, hi
	expectValid(t, c)
	return c
}

func TestLongestTimes(t *testing.T) {
	const most = 1 << 36 // 32 of these are 2^41
	for _, x := range []struct{ lo, hi, laps, wantLo, wantHi int }{
		{most, most, 31, 31 << 36, 31 << 36},
		{most, most, 32, 1 << 41, 1 << 41},
		{most, most, 33, 1 << 41, 1 << 41},
		{most, most, 64, 1 << 41, 1 << 41},
		{most, most, 253, 1 << 41, 1 << 41},
		{most - 1, most, 32, 1<<41 - 32, 1 << 41},
		{most - 1, most, 33, 1 << 41, 1 << 41},
		{0, most, 64, 0, 1 << 41},
		{1, most, 253, 253, 1 << 41},
		{1 << 35, 1<<35 + 1, 63, 63 << 35, 63<<35 + 63},
		{1 << 35, 1<<35 + 1, 64, 1 << 41, 1 << 41},
		{1<<35 - 1, 1<<35 - 1, 64, 1<<41 - 64, 1<<41 - 64},
		{1<<35 - 1, 1 << 35, 65, 1 << 41, 1 << 41},
	} {
		c := long(t, x.lo, x.hi)
		want := api.Span{Lo: x.wantLo, Hi: x.wantHi}
		extra := max(0, x.laps-64)
		expectBetween(t, c, 0, extra, 0, 1+x.laps, want, api.OK)
		expectBetween(t, c, 0, extra, 1, 1+x.laps, want, api.OK)
	}
	// 2^41 and one less or more.
	c := read(t, "sq 0 0, qe 0 0, qq 0 0", "s; q; laps 32 { q; } e;")
	c.Legs[2].Min, c.Legs[2].Max = 1<<36-1, 1<<36-1
	for add, want := range map[int]int{0: 1<<41 - 32, 31: 1<<41 - 1, 32: 1 << 41, 33: 1 << 41, 1000: 1 << 41} {
		c.Legs[0].Min, c.Legs[0].Max = 0, add
		expectBetween(t, c, 0, 0, 0, 34, api.Span{Lo: 1<<41 - 32, Hi: want}, api.OK)
		expectFinish(t, c, 0, api.Span{Lo: 1<<41 - 32, Hi: want}, true, api.OK)
		c.Legs[0].Min = add
		expectBetween(t, c, 0, 0, 0, 34, api.Span{Lo: want, Hi: want}, api.OK)
		expectFinish(t, c, 0, api.Span{Lo: want, Hi: want}, true, api.OK)
	}
}

func TestFinish(t *testing.T) {
	nobody := api.Span{}
	for _, x := range []struct {
		cutoffs string
		want    api.Span // the zero span: nobody finishes
	}{
		// The earliest times are 0, 1, 3, 5, 7 and 12, the latest ones 0, 10, 30, 35, 55 and 95.
		{"", seconds(12, 95)},
		{"cutoff e lap 1 1:35;", seconds(12, 95)},
		{"cutoff e lap 1 1:36;", seconds(12, 95)},
		{"cutoff e lap 1 1:34.999999;", api.Span{Lo: 12000000, Hi: 94999999}},
		{"cutoff e lap 1 0:13;", seconds(12, 13)},
		{"cutoff e lap 1 0:12;", seconds(12, 12)},
		{"cutoff e lap 1 0:11.999999;", nobody},
		{"cutoff e lap 1 0:00;", nobody},
		// at the position 0
		{"cutoff s lap 1 0:00;", seconds(12, 95)},
		{"cutoff s lap 1 9:00:00;", seconds(12, 95)},
		// in the first lap
		{"cutoff q lap 1 0:10;", seconds(12, 95)},
		{"cutoff q lap 1 0:09;", seconds(12, 94)},
		{"cutoff q lap 1 0:01;", seconds(12, 86)},
		{"cutoff q lap 1 0:00.999999;", nobody},
		{"cutoff q lap 1 0:00;", nobody},
		{"cutoff r lap 1 0:30;", seconds(12, 95)},
		{"cutoff r lap 1 0:03;", seconds(12, 68)},
		{"cutoff r lap 1 0:02.999999;", nobody},
		// in the second lap
		{"cutoff q lap 2 0:10;", seconds(12, 70)},
		{"cutoff q lap 2 0:05;", seconds(12, 65)},
		{"cutoff q lap 2 0:04;", nobody},
		{"cutoff r lap 2 0:54;", seconds(12, 94)},
		{"cutoff r lap 2 0:07;", seconds(12, 47)},
		{"cutoff r lap 2 0:06;", nobody},
		// several
		{"cutoff q lap 1 0:05; cutoff q lap 2 0:29;", seconds(12, 89)},
		{"cutoff q lap 2 0:29; cutoff q lap 1 0:05;", seconds(12, 89)},
		{"cutoff q lap 1 0:05; cutoff q lap 2 0:30;", seconds(12, 90)},
		{"cutoff q lap 1 0:05; cutoff q lap 2 0:31;", seconds(12, 90)},
		{"cutoff q lap 1 0:01; cutoff r lap 1 0:03; cutoff q lap 2 0:05; cutoff r lap 2 0:07; cutoff e lap 1 0:12;", seconds(12, 12)},
		{"cutoff e lap 1 0:50; cutoff e lap 1 0:40;", seconds(12, 40)},
		{"cutoff e lap 1 0:40; cutoff e lap 1 0:50;", seconds(12, 40)},
		{"cutoff q lap 2 0:20; cutoff e lap 1 9:00; cutoff q lap 2 0:15; cutoff q lap 2 0:25;", seconds(12, 75)},
		{"cutoff q lap 2 0:20; cutoff q lap 2 0:20;", seconds(12, 80)},
		{"cutoff q lap 1 9:00; cutoff q lap 2 0:04; cutoff e lap 1 9:00;", nobody},
		{"cutoff q lap 1 0:00; cutoff q lap 1 9:00;", nobody},
		{"cutoff q lap 1 9:00; cutoff q lap 1 0:00;", nobody},
		{"cutoff e lap 1 9:00; cutoff q lap 1 0:00; cutoff e lap 1 0:00;", nobody},
	} {
		for _, extra := range []string{"", "extra q;"} {
			c := read(t, "sq 1 10, qr 2 20, rq 2 5, re 5 40, qq 9 9, qe 1 1, se 3 4", "s; e;", "s; laps 2 { q; r; } e; "+x.cutoffs+extra, "s; q; e; cutoff q lap 1 0:00;")
			expectFinish(t, c, 1, x.want, x.want != nobody, api.OK)
			expectFinish(t, c, 0, seconds(3, 4), true, api.OK)
			expectFinish(t, c, 2, nobody, false, api.OK)
		}
	}
}

// The course can be finished in no time, which is not the same as by nobody.
func TestFinishInNoTime(t *testing.T) {
	expectFinish(t, read(t, "se 0 0", "s; e;"), 0, api.Span{}, true, api.OK)
	expectFinish(t, read(t, "se 0 9", "s; e; cutoff e lap 1 0:00;"), 0, api.Span{}, true, api.OK)
	expectFinish(t, read(t, "se 0 9", "s; e; cutoff s lap 1 0:00;"), 0, seconds(0, 9), true, api.OK)
}

// Times of 2^41 are the greatest ones, and cut-offs have limits of 2^40 or less.
func TestFinishLate(t *testing.T) {
	const most = 1 << 36
	for _, x := range []struct {
		lo, hi  int
		cutoffs []api.Cutoff // at q, in a lap
		want    api.Span
		ok      bool
	}{
		{most, most, nil, api.Span{Lo: 1 << 41, Hi: 1 << 41}, true},
		{0, most, nil, api.Span{Lo: 0, Hi: 1 << 41}, true},
		{1 << 34, most, nil, api.Span{Lo: 1 << 40, Hi: 1 << 41}, true},
		{1 << 34, most, []api.Cutoff{{Lap: 65, Limit: 1 << 40}}, api.Span{Lo: 1 << 40, Hi: 1 << 40}, true},
		{1 << 34, most, []api.Cutoff{{Lap: 65, Limit: 1<<40 - 1}}, api.Span{}, false},
		{1 << 34, most, []api.Cutoff{{Lap: 33, Limit: 1 << 39}}, api.Span{Lo: 1 << 40, Hi: 1 << 41}, true},
		{1 << 34, most, []api.Cutoff{{Lap: 49, Limit: 1 << 40}}, api.Span{Lo: 1 << 40, Hi: 1 << 41}, true},
		{1 << 34, most, []api.Cutoff{{Lap: 50, Limit: 1 << 40}}, api.Span{Lo: 1 << 40, Hi: 31 << 36}, true},
		{most, most, []api.Cutoff{{Lap: 17, Limit: 1 << 40}}, api.Span{Lo: 1 << 41, Hi: 1 << 41}, true},
		{most, most, []api.Cutoff{{Lap: 18, Limit: 1 << 40}}, api.Span{}, false},
		{most, most, []api.Cutoff{{Lap: 65, Limit: 1 << 40}}, api.Span{}, false},
		{most, most, []api.Cutoff{{Lap: 1, Limit: 0}}, api.Span{Lo: 1 << 41, Hi: 1 << 41}, true},
	} {
		c := long(t, x.lo, x.hi)
		for i := range x.cutoffs {
			x.cutoffs[i].Mat = 1
		}
		c.Distances[0].Cutoffs = x.cutoffs
		expectValid(t, c)
		expectFinish(t, c, 0, x.want, x.ok, api.OK)
	}
}

// All cut-offs count, as many as there may be.
func TestManyCutoffs(t *testing.T) {
	c := read(t, "sq 1 9, qe 1 9", "s; q; e;")
	for i := range api.MaxCutoffs {
		l := slices.Repeat([]api.Cutoff{{Mat: 5, Lap: 1, Limit: 1 << 40}}, api.MaxCutoffs)
		l[i] = api.Cutoff{Mat: 1, Lap: 1, Limit: 4000000 + i}
		c.Distances[0].Cutoffs = l
		expectValid(t, c)
		expectFinish(t, c, 0, api.Span{Lo: 2000000, Hi: 13000000 + i}, true, api.OK)
	}
	if _, ok, e := course.Finish(c, 1); ok || e != api.ErrCourse {
		t.Error(ok, e)
	}
}
