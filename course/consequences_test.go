package course_test

import (
	"slices"
	"testing"

	"stopwatch/api"
	"stopwatch/course"
)

// P9.4

// eachRoute calls a function with the routes of random courses that penalty laps admit.
func eachRoute(t *testing.T, many int64, call func(a author, c api.Course, distance, extra int, route []int)) {
	t.Helper()
	eachCourse(t, many, func(a author, c api.Course, _ func() api.Course) {
		for distance := range c.Distances {
			for _, extra := range []int{0, 1, 2, a.Intn(100)} {
				if route, e := course.Route(c, distance, extra); e == api.OK {
					call(a, c, distance, extra, route)
				}
			}
		}
	})
}

func TestPositionIsTheInverseOfCounting(t *testing.T) {
	eachRoute(t, 150, func(_ author, c api.Course, distance, extra int, route []int) {
		passed := map[int]int{}
		for i, mat := range route {
			passed[mat]++
			expectPosition(t, c, distance, extra, mat, passed[mat], i, api.OK)
		}
		for mat := range c.Mats {
			expectPosition(t, c, distance, extra, mat, passed[mat]+1, 0, api.ErrCourse)
		}
	})
}

func TestBetweenIsAdditive(t *testing.T) {
	eachRoute(t, 300, func(a author, c api.Course, distance, extra int, route []int) {
		l := []int{a.Intn(len(route)), a.Intn(len(route)), a.Intn(len(route))}
		slices.Sort(l)
		first, e := course.Between(c, distance, extra, l[0], l[1])
		second, f := course.Between(c, distance, extra, l[1], l[2])
		if e != api.OK || f != api.OK {
			t.Error(e, f)
		}
		expectBetween(t, c, distance, extra, l[0], l[2], api.Span{Lo: min(first.Lo+second.Lo, 1<<41), Hi: min(first.Hi+second.Hi, 1<<41)}, api.OK)
	})
}

func TestPenaltyLapsMakeRoutesLonger(t *testing.T) {
	cases := 0
	eachRoute(t, 300, func(a author, c api.Course, distance, extra int, route []int) {
		longer, e := course.Route(c, distance, extra+1)
		if e != api.OK {
			return
		}
		cases++
		last := chapterLast(route, c.Distances[distance].Extra)
		if len(longer) != len(route)+1 || !slices.Equal(longer[:last+1], route[:last+1]) || !slices.Equal(longer[last+2:], route[last+1:]) {
			t.Errorf("%d penalty laps: %v, one more: %v", extra, route, longer)
		}
		to := a.Intn(last + 1)
		from := a.Intn(to + 1)
		s, e := course.Between(c, distance, extra, from, to)
		expectBetween(t, c, distance, extra+1, from, to, s, e)
		expectPosition(t, c, distance, extra+1, route[to], chapterLap(route, to), to, api.OK)
	})
	if cases < 500 {
		t.Error(cases)
	}
}

func TestLaterCutoffs(t *testing.T) {
	changed := 0
	eachCourse(t, 1000, func(a author, c api.Course, _ func() api.Course) {
		for distance := range c.Distances {
			before, possible, e := course.Finish(c, distance)
			for i := range c.Distances[distance].Cutoffs {
				limit := &c.Distances[distance].Cutoffs[i].Limit
				earlier := *limit
				*limit += a.Intn(1<<40 - earlier + 1)
				if a.Intn(2) == 0 {
					*limit = min(earlier+1+a.Intn(10), 1<<40)
				}
				s, ok, f := course.Finish(c, distance)
				if e != api.OK || f != api.OK || possible && (!ok || s.Lo != before.Lo || s.Hi < before.Hi) {
					t.Errorf("%v, %t with a limit of %d: %v, %t with %d", before, possible, earlier, s, ok, *limit)
				}
				if s != before {
					changed++
				}
				*limit = earlier
			}
		}
	})
	if changed < 100 {
		t.Error(changed)
	}
}
