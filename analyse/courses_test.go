package analyse_test

import (
	"fmt"
	"math"
	"slices"
	"strconv"
	"testing"

	"stopwatch/analyse"
	"stopwatch/api"
	"stopwatch/typing"
)

// P11.3

// valid returns a course with the mats s (0), p (1) and e (2), legs of 10 to 20, and distances with two laps of p and these cut-offs.
func valid(t *testing.T, cutoffs ...[]api.Cutoff) api.Course {
	t.Helper()
	c := api.Course{
		Name: "c",
		Mats: []api.Mat{{Name: "s", Kind: api.StartM}, {Name: "p", Kind: api.PassM}, {Name: "e", Kind: api.EndM}},
		Legs: []api.Leg{{From: 0, To: 1, Min: 10, Max: 20}, {From: 1, To: 1, Min: 10, Max: 20}, {From: 1, To: 2, Min: 10, Max: 20}},
		Ties: []api.Step{by(api.BibB)},
	}
	for i, l := range cutoffs {
		c.Distances = append(c.Distances, api.Distance{
			Name:   "d" + strconv.Itoa(i),
			Route:  []api.Part{{Mat: 0}, {Laps: 2, Parts: []api.Part{{Mat: 1}}}, {Mat: 2}},
			Timing: api.GunT, Cutoffs: l, Extra: -1,
		})
	}
	expectValid(t, c)
	return c
}

func expectValid(t *testing.T, c api.Course) {
	t.Helper()
	if e := typing.Course(c); e != api.OK {
		t.Fatalf("%d: %+v", e, c)
	}
}

func expectImpossible(t *testing.T, c api.Course, want ...int) {
	t.Helper()
	if l, e := analyse.Impossible(c); e != api.OK || !slices.Equal(l, want) {
		t.Error(l, want, e)
	}
}

func TestImpossibleByHand(t *testing.T) {
	at := func(mat, lap, limit int) api.Cutoff { return api.Cutoff{Mat: mat, Lap: lap, Limit: limit} }
	expectImpossible(t, valid(t))
	expectImpossible(t, valid(t, nil))
	expectImpossible(t, valid(t, nil, []api.Cutoff{}, nil))
	for mat, laps := range [][]int{{0}, {10, 20}, {30}} {
		for i, least := range laps {
			expectImpossible(t, valid(t, []api.Cutoff{at(mat, i+1, least)}))
			expectImpossible(t, valid(t, []api.Cutoff{at(mat, i+1, least)}, []api.Cutoff{at(mat, i+1, max(least-1, 0))}), slices.Repeat([]int{1}, min(least, 1))...)
		}
	}
	expectImpossible(t, valid(t, []api.Cutoff{at(1, 1, 9)}), 0)
	expectImpossible(t, valid(t, []api.Cutoff{at(1, 1, 100), at(1, 1, 9), at(1, 1, 50)}), 0)
	expectImpossible(t, valid(t, []api.Cutoff{at(1, 1, 10), at(1, 2, 20), at(2, 1, 30), at(0, 1, 0)}))
	expectImpossible(t, valid(t, []api.Cutoff{at(2, 1, 29)}, nil, []api.Cutoff{at(1, 2, 20)}, []api.Cutoff{at(1, 2, 19)}, []api.Cutoff{at(2, 1, 1<<40)}, []api.Cutoff{at(2, 1, 0)}, nil, []api.Cutoff{at(1, 1, 0)}), 0, 3, 5, 7)
	most := []api.Cutoff{at(1, 1, 9)}
	expectImpossible(t, valid(t, most, most, most, most, most, most, most, most), 0, 1, 2, 3, 4, 5, 6, 7)
}

// The gun of a wave and the kind of timing have no effect: the times count from the gun.
func TestImpossibleWithWaves(t *testing.T) {
	for timing := 1; timing <= 3; timing++ {
		c := valid(t, []api.Cutoff{{Mat: 2, Lap: 1, Limit: 30}}, []api.Cutoff{{Mat: 2, Lap: 1, Limit: 29}})
		c.Waves = []api.Wave{{Name: "w", Gun: 1 << 40}}
		c.Distances[0].Timing, c.Distances[1].Timing = timing, timing
		expectImpossible(t, c, 1)
	}
}

// Penalty laps make a route longer, but they are not run by the fastest body.
func TestImpossibleWithoutPenaltyLaps(t *testing.T) {
	c := valid(t, []api.Cutoff{{Mat: 2, Lap: 1, Limit: 30}})
	c.Distances[0].Extra = 1
	expectImpossible(t, c)
}

func TestImpossibleOfRandomCourses(t *testing.T) {
	found, distances := 0, 0
	eachCourse(t, 2000, func(_ author, c api.Course, again func() api.Course) {
		want := chapterImpossible(c)
		expectImpossible(t, c, want...)
		expectImpossible(t, c, want...)
		if fmt.Sprint(c) != fmt.Sprint(again()) {
			t.Error(c)
		}
		found += len(want)
		distances += len(c.Distances)
	})
	if found < 1000 || found > distances-1000 {
		t.Error(found, distances)
	}
}

func expectOverlap(t *testing.T, l []api.Category, want ...int) {
	t.Helper()
	c := valid(t, nil)
	c.Categories = slices.Clone(l)
	for i := range c.Categories {
		c.Categories[i].Name = "c" + strconv.Itoa(i)
	}
	expectValid(t, c)
	if ages, e := analyse.Overlap(c); e != api.OK || !slices.Equal(ages, want) {
		t.Error(l, ages, want, e)
	}
}

// from returns a category.
func from(least, greatest int) api.Category { return api.Category{From: least, To: greatest} }

func TestOverlapByHand(t *testing.T) {
	expectOverlap(t, nil)
	expectOverlap(t, []api.Category{from(0, 120)})
	expectOverlap(t, []api.Category{from(16, 19), from(19, 23)}, 19) // the chapter's example
	expectOverlap(t, []api.Category{from(19, 23), from(16, 19)}, 19)
	expectOverlap(t, []api.Category{from(16, 18), from(19, 23)})
	expectOverlap(t, []api.Category{from(19, 23), from(16, 18)})
	expectOverlap(t, []api.Category{from(16, 20), from(19, 23)}, 19, 20)
	expectOverlap(t, []api.Category{from(16, 30), from(19, 23)}, 19, 20, 21, 22, 23)
	expectOverlap(t, []api.Category{from(16, 17), from(16, 17)}, 16, 17)
	expectOverlap(t, []api.Category{from(30, 31), from(10, 11), from(11, 12), from(31, 31), from(12, 12), from(32, 120)}, 11, 12, 31)
	expectOverlap(t, []api.Category{from(16, 19), from(18, 21), from(19, 20)}, 18, 19, 20)
	// The ends of the ages.
	expectOverlap(t, []api.Category{from(0, 0), from(0, 0)}, 0)
	expectOverlap(t, []api.Category{from(0, 0), from(0, 1)}, 0)
	expectOverlap(t, []api.Category{from(0, 0), from(1, 1)})
	expectOverlap(t, []api.Category{from(120, 120), from(120, 120)}, 120)
	expectOverlap(t, []api.Category{from(119, 120), from(0, 119)}, 119)
	expectOverlap(t, []api.Category{from(120, 120), from(0, 119)})
	all := make([]int, 121)
	for age := range all {
		all[age] = age
	}
	expectOverlap(t, slices.Repeat([]api.Category{from(0, 120)}, 2), all...)
	expectOverlap(t, slices.Repeat([]api.Category{from(0, 120)}, 32), all...)
	apart := make([]api.Category, 32)
	for i := range apart {
		apart[i] = from(3*i, 3*i+2)
	}
	expectOverlap(t, apart)
	apart[31].From = 91
	expectOverlap(t, apart, 91, 92)
}

// Distances do not matter.
func TestOverlapWithoutDistances(t *testing.T) {
	c := valid(t)
	c.Categories = []api.Category{{Name: "x", From: 1, To: 2}, {Name: "y", From: 2, To: 3}}
	if ages, e := analyse.Overlap(c); e != api.OK || !slices.Equal(ages, []int{2}) {
		t.Error(ages, e)
	}
}

func TestOverlapOfRandomCourses(t *testing.T) {
	found := map[bool]int{}
	eachCourse(t, 2000, func(_ author, c api.Course, again func() api.Course) {
		want := chapterOverlap(c)
		for range 2 {
			if ages, e := analyse.Overlap(c); e != api.OK || !slices.Equal(ages, want) {
				t.Error(c.Categories, ages, want, e)
			}
		}
		if fmt.Sprint(c) != fmt.Sprint(again()) {
			t.Error(c)
		}
		found[len(want) > 0]++
	})
	if found[false] < 500 || found[true] < 500 {
		t.Error(found)
	}
}

// The errors of both functions are those of typing.Course, also where a distance is impossible or categories overlap.
func TestCourseErrors(t *testing.T) {
	for i, x := range []struct {
		alter func(c *api.Course)
		want  api.Errno
	}{
		{func(c *api.Course) {}, api.OK},
		{func(c *api.Course) { *c = api.Course{} }, api.ErrName},
		{func(c *api.Course) { c.Name = "" }, api.ErrName},
		{func(c *api.Course) { c.Categories[1].Name = "x" }, api.ErrName},
		{func(c *api.Course) { c.Categories = make([]api.Category, 33) }, api.ErrLimit},
		{func(c *api.Course) { c.Categories[0].From = -1 }, api.ErrRange},
		{func(c *api.Course) { c.Categories[0].From = 3 }, api.ErrRange},
		{func(c *api.Course) { c.Categories[0].To = 121 }, api.ErrRange},
		{func(c *api.Course) { c.Categories[0].To = math.MaxInt }, api.ErrRange},
		{func(c *api.Course) { c.Distances = make([]api.Distance, 9) }, api.ErrLimit},
		{func(c *api.Course) { c.Distances[0].Cutoffs[0].Mat = 3 }, api.ErrRange},
		{func(c *api.Course) { c.Distances[0].Cutoffs[0].Lap = 0 }, api.ErrRange},
		{func(c *api.Course) { c.Distances[0].Cutoffs[0].Limit = -1 }, api.ErrRange},
		{func(c *api.Course) { c.Distances[0].Cutoffs[0].Lap = 3 }, api.ErrRoute},
		{func(c *api.Course) { c.Distances[1].Route = c.Distances[1].Route[:2] }, api.ErrRoute},
		{func(c *api.Course) { c.Legs = c.Legs[1:] }, api.ErrRoute},
		{func(c *api.Course) { c.Ties = nil }, api.ErrRange},
		{func(c *api.Course) { c.Ties = slices.Repeat(c.Ties, 65) }, api.ErrLimit},
	} {
		c := valid(t, []api.Cutoff{{Mat: 1, Lap: 1, Limit: 9}}, nil)
		c.Categories = []api.Category{{Name: "x", From: 1, To: 2}, {Name: "y", From: 2, To: 3}}
		x.alter(&c)
		l, e := analyse.Impossible(c)
		ages, f := analyse.Overlap(c)
		if e != x.want || f != x.want || typing.Course(c) != x.want || e != api.OK && len(l)+len(ages) > 0 {
			t.Error(i, l, e, ages, f)
		}
	}
}
