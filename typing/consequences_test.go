package typing_test

import (
	"slices"
	"testing"

	"stopwatch/api"
	"stopwatch/typing"
)

// P7.4

// expectEquivalent tells whether two conditions, if both are valid, hold in the same environments.
func expectEquivalent(t *testing.T, a *author, c, d api.Cond) (valid bool) {
	t.Helper()
	if typing.Cond(c) != api.OK || typing.Cond(d) != api.OK {
		return false
	}
	for range 6 {
		x := a.env()
		ok, e := typing.Holds(c, x)
		same, f := typing.Holds(d, x)
		if ok != same || e != api.OK || f != api.OK {
			t.Errorf("%s and %s in %+v: got %t, %d and %t, %d", short(c), short(d), x, ok, e, same, f)
		}
	}
	return true
}

func TestLawsOfLogic(t *testing.T) {
	valid := 0
	for seed := range int64(3000) {
		a := newAuthor(seed)
		var parts, denied []api.Cond
		for range 1 + a.Intn(4) {
			c, _ := a.cond(2)
			parts, denied = append(parts, c), append(denied, not(c))
		}
		mixed := append(slices.Clone(parts), parts[a.Intn(len(parts))], parts[a.Intn(len(parts))])
		a.Shuffle(len(mixed), func(i, k int) { mixed[i], mixed[k] = mixed[k], mixed[i] })
		one := parts[0]
		for _, x := range [][2]api.Cond{
			{not(and(parts...)), or(denied...)},
			{not(or(parts...)), and(denied...)},
			{and(parts...), and(mixed...)},
			{or(parts...), or(mixed...)},
			{not(not(one)), one},
			{and(one), one},
			{or(one), one},
			{and(one, or(parts...)), one},
			{or(one, and(parts...)), one},
			{and(one, not(one)), not(atLeast(api.FieldV, 0))},
			{or(one, not(one)), atLeast(api.ShortV, 0)},
		} {
			if expectEquivalent(t, a, x[0], x[1]) {
				valid++
			}
		}
		for range 4 {
			x := a.env()
			ok, e := typing.Holds(one, x)
			denied, f := typing.Holds(not(one), x)
			if ok == denied || e != api.OK || f != api.OK {
				t.Errorf("%s in %+v: got %t, and %t if denied", short(one), x, ok, denied)
			}
		}
	}
	if valid < 30000 {
		t.Error(valid)
	}
}

func TestStepsThatFollowOtherOnes(t *testing.T) {
	cases := 0
	for seed := range int64(4000) {
		a := newAuthor(seed)
		l, m := a.steps(2), a.steps(2)
		if typing.Ties(slices.Concat(l, m)) != api.OK {
			continue
		}
		cases++
		for range 4 {
			x := a.env()
			first, e := typing.Direct(l, x)
			second, f := typing.Direct(m, x)
			both, g := typing.Direct(slices.Concat(l, m), x)
			want := slices.Clone(first)
			for _, n := range second {
				if !slices.Contains(first, n) {
					want = append(want, n)
				}
			}
			if e != api.OK || f != api.OK || g != api.OK || !slices.Equal(both, want) {
				t.Errorf("%s and %s in %+v: got %v, %v, and %v together", short(l), short(m), x, first, second, both)
			}
			sorted := slices.Sorted(slices.Values(both))
			if len(slices.Compact(sorted)) != len(both) {
				t.Errorf("%s and %s in %+v: got %v", short(l), short(m), x, both)
			}
		}
	}
	if cases < 3000 {
		t.Error(cases)
	}
}

// validCourses calls a function with random courses that are valid, some of them altered.
func validCourses(t *testing.T, call func(c api.Course)) {
	t.Helper()
	cases := 0
	for seed := range int64(3000) {
		a := newAuthor(seed)
		c := a.course()
		for _, x := range []api.Course{c, altered(a, c)} {
			if typing.Course(x) == api.OK {
				call(x)
				cases++
			}
		}
	}
	if cases < 3500 {
		t.Error(cases)
	}
}

func TestNeighboursHaveOneLeg(t *testing.T) {
	validCourses(t, func(c api.Course) {
		for _, d := range c.Distances {
			route := chapterRoute(d.Route)
			for i, to := range route[1:] {
				if n := chapterLegs(c, route[i], to); n != 1 {
					t.Errorf("%s: %d legs from %d to %d", short(c), n, route[i], to)
				}
			}
		}
	})
}

// eachWithout calls a function with each list that lacks one element of l.
func eachWithout[T any](l []T, call func(l []T)) {
	for i := range l {
		call(slices.Delete(slices.Clone(l), i, i+1))
	}
}

func TestLeavingOut(t *testing.T) {
	cases := 0
	validCourses(t, func(c api.Course) {
		check := func(what string, x api.Course) {
			cases++
			if e := typing.Course(x); e != api.OK {
				t.Errorf("%s without %s: got %d", short(c), what, e)
			}
		}
		x := c
		eachWithout(c.Prizes, func(l []api.Prize) { x.Prizes = l; check("a prize", x) })
		x = c
		eachWithout(c.Offences, func(l []api.Offence) { x.Offences = l; check("an offence", x) })
		x = c
		eachWithout(c.Waves, func(l []api.Wave) { x.Waves = l; check("a wave", x) })
		for i, d := range c.Distances {
			x := copied(c)
			eachWithout(d.Cutoffs, func(l []api.Cutoff) { x.Distances[i].Cutoffs = l; check("a cut-off", x) })
		}
	})
	if cases < 20000 {
		t.Error(cases)
	}
}
