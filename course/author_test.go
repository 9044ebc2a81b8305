package course_test

import (
	"math/rand"
	"strconv"
	"strings"
	"testing"

	"stopwatch/api"
	"stopwatch/syntax"
	"stopwatch/typing"
)

// matNames are the mats of the courses that the tests write: p, q and r are on the way (p has the index 0, which is also the Mat of laps), s and t at a start, e and f at a finish.
const matNames = "pqrstef"

// read returns a valid course with legs such as "sp 1 2" (the least and the greatest time in seconds), separated by commas, and distances such as "s; p; e;".
func read(t *testing.T, legs string, distances ...string) api.Course {
	t.Helper()
	text := "course a { mats { pass p; pass q; pass r; start s; start t; end e; end f; } "
	for l := range strings.SplitSeq(legs, ",") {
		x := strings.Fields(l)
		text += "leg " + x[0][:1] + " to " + x[0][1:] + " 0:" + twoDigits(x[1]) + " .. 0:" + twoDigits(x[2]) + "; "
	}
	for i, d := range distances {
		text += "distance d" + strconv.Itoa(i) + " gun { " + d + " } "
	}
	text += "ties { bib; } faults { misses 0; strays 0; window 0:00; residual 0:00; drift 0; } protest fee 0 deadline 0:00; }"
	c, at, e := syntax.Course([]byte(text))
	if e != api.OK {
		t.Fatalf("%d at %d of %s", e, at, text)
	}
	expectValid(t, c)
	return c
}

func twoDigits(n string) string { return ("0" + n)[len(n)-1:] }

func expectValid(t *testing.T, c api.Course) {
	t.Helper()
	if e := typing.Course(c); e != api.OK {
		t.Fatalf("%d: %+v", e, c)
	}
}

// anyLegs are legs from each mat to each other one and to itself.
func anyLegs() string {
	var l []string
	for _, from := range matNames {
		for _, to := range matNames {
			l = append(l, string(from)+string(to)+" 1 2")
		}
	}
	return strings.Join(l, ",")
}

// letters returns the names of mats.
func letters(mats []int) (s string) {
	for _, m := range mats {
		if m < 0 || m >= len(matNames) {
			return "no such mat"
		}
		s += matNames[m : m+1]
	}
	return s
}

// author invents valid courses; the same seed leads to the same one, in new memory.
type author struct{ *rand.Rand }

func newAuthor(seed int64) author { return author{rand.New(rand.NewSource(seed))} }

// one returns one of these.
func one[T any](a author, l ...T) T { return l[a.Intn(len(l))] }

// parts returns parts with some of these mats.
func (a author) parts(mats []int, depth int) (l []api.Part) {
	for range 1 + a.Intn(3) {
		p := api.Part{Mat: one(a, mats...)}
		if depth > 0 && a.Intn(2) == 0 {
			p = api.Part{Laps: one(a, 1, 2, 2, 3, 4, 9), Parts: a.parts(mats, depth-1)}
		}
		l = append(l, p)
	}
	return l
}

// distance returns a distance that begins and ends with given mats, and passes some of the others.
func (a author) distance(name string, start int, passed []int, end, scale int) api.Distance {
	d := api.Distance{Name: name, Timing: 1 + a.Intn(3), Extra: -1}
	for length := 0; length < 2 || length > api.MaxRoute; length = len(chapterExpanded(d.Route)) {
		d.Route = []api.Part{{Mat: start}}
		if a.Intn(8) > 0 {
			d.Route = append(d.Route, a.parts(passed, a.Intn(5))...)
		}
		d.Route = append(d.Route, api.Part{Mat: end})
	}
	if a.Intn(4) == 0 {
		d.Route = []api.Part{{Laps: 1, Parts: d.Route}}
	}
	route := chapterExpanded(d.Route)
	if len(route) > 2 && a.Intn(3) > 0 {
		d.Extra = route[1+a.Intn(len(route)-2)]
	}
	for range a.Intn(4) {
		at := a.Intn(len(route))
		limit := one(a, 0, at*scale/2, at*scale, at*scale*3/2, a.Intn(2*at*scale+1), 1<<40)
		d.Cutoffs = append(d.Cutoffs, api.Cutoff{Mat: route[at], Lap: chapterLap(route, at), Limit: min(limit, 1<<40)})
	}
	return d
}

// course returns a course with two mats at a start, up to four on the way and two at a finish, in any order, and with legs between all of them.
func (a author) course() (c api.Course) {
	c.Name = "random"
	kinds := [][]int{1: nil, 2: nil, 3: nil}
	for i, k := range a.Perm(5 + a.Intn(4)) {
		kind := []int{1, 2, 3, 1, 3, 2, 2, 2}[k]
		c.Mats = append(c.Mats, api.Mat{Name: "m" + strconv.Itoa(i), Kind: kind})
		kinds[kind] = append(kinds[kind], i)
	}
	scale := one(a, 1, 2, 10, 1000000, 1<<34, 1<<36) // of the time that a leg takes
	many := len(c.Mats)
	for _, i := range a.Perm(many * many) {
		least := one(a, 0, scale/2, scale, a.Intn(scale+1))
		c.Legs = append(c.Legs, api.Leg{From: i / many, To: i % many, Min: least, Max: one(a, least, scale, least+a.Intn(scale-least+1))})
	}
	for i := range a.Intn(4) {
		c.Distances = append(c.Distances, a.distance("d"+strconv.Itoa(i), one(a, kinds[1]...), kinds[2], one(a, kinds[3]...), scale))
	}
	c.Ties = []api.Step{{Kind: api.ByS, By: api.BibB}}
	return c
}

// eachCourse calls a function with random courses, and two functions that choose at random and make the same course again.
func eachCourse(t *testing.T, many int64, call func(a author, c api.Course, again func() api.Course)) {
	t.Helper()
	for seed := range many {
		a := newAuthor(seed)
		c := a.course()
		expectValid(t, c)
		call(a, c, func() api.Course { return newAuthor(seed).course() })
	}
}
