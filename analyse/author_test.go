package analyse_test

import (
	"math/rand"
	"slices"
	"strconv"
	"testing"

	"stopwatch/api"
	"stopwatch/syntax"
	"stopwatch/typing"
)

// ties reads a tie rule.
func ties(t *testing.T, text string) []api.Step {
	t.Helper()
	l, at, e := syntax.Steps([]byte(text))
	if e != api.OK {
		t.Fatalf("%q: %d at %d", text, e, at)
	}
	return l
}

func by(criterion int) api.Step { return api.Step{Kind: api.ByS, By: criterion} }

func choice(c api.Cond, then []api.Step, otherwise ...api.Step) api.Step {
	return api.Step{Kind: api.IfS, Cond: c, Then: then, Else: otherwise}
}

func atLeast(variable, n int) api.Cond { return api.Cond{Kind: api.AtLeastC, Var: variable, N: n} }

func not(c api.Cond) api.Cond { return api.Cond{Kind: api.NotC, Parts: []api.Cond{c}} }

// author invents tie rules and courses; the same seed leads to the same ones, in new memory.
type author struct{ *rand.Rand }

func newAuthor(seed int64) author { return author{rand.New(rand.NewSource(seed))} }

// one returns one of these.
func one[T any](a author, l ...T) T { return l[a.Intn(len(l))] }

// lower returns a number below n, mostly a small one.
func (a author) lower(n int) int { return a.Intn(1 + a.Intn(n)) }

// cond returns a condition, at few values, so that conditions often depend on each other.
func (a author) cond(depth int) (c api.Cond) {
	if depth == 0 || a.Intn(2) == 0 {
		return one(a,
			atLeast(api.DistanceV, one(a, 0, 1, 2, 3, 6, 7, 8)),
			atLeast(api.FieldV, one(a, 0, 1, 2, 3, 9, 3999, 4000, 4001, 10000)),
			atLeast(api.ShortV, one(a, 0, 1, 1, 1, 2)))
	}
	c.Kind = one(a, api.AndC, api.OrC, api.NotC)
	many := 1
	if c.Kind != api.NotC {
		many += a.lower(3)
	}
	for range many {
		c.Parts = append(c.Parts, a.cond(depth-1))
	}
	return c
}

func (a author) steps(depth int) (l []api.Step) {
	for range 1 + a.lower(5) {
		if depth == 0 || a.Intn(4) == 0 {
			l = append(l, by(1+a.Intn(5)))
			continue
		}
		s := choice(a.cond(2), a.steps(depth-1))
		if a.Intn(4) > 0 {
			s.Else = a.steps(depth - 1)
		}
		l = append(l, s)
	}
	return l
}

// ties returns a valid tie rule.
func (a author) ties(depth int) []api.Step {
	for {
		if l := a.steps(depth); typing.Ties(l) == api.OK {
			return l
		}
	}
}

// rewritten returns a rule that applies the same criteria as l.
func (a author) rewritten(l []api.Step) []api.Step {
	l = slices.Clone(l)
	for i, s := range l {
		switch {
		case s.Kind == api.ByS && a.Intn(3) == 0:
			l[i] = choice(a.cond(1), []api.Step{s}, s)
		case s.Kind == api.IfS && len(s.Else) > 0 && a.Intn(2) == 0:
			l[i] = choice(not(s.Cond), s.Else, s.Then...)
		case s.Kind == api.IfS:
			l[i].Then = a.rewritten(s.Then)
			l[i].Cond = api.Cond{Kind: api.OrC, Parts: []api.Cond{{Kind: api.AndC, Parts: []api.Cond{s.Cond, a.cond(1)}}, s.Cond}}
		}
	}
	if a.Intn(2) == 0 {
		l = append(l, l[a.Intn(len(l))]) // criteria that have been applied
	}
	return l
}

// pair returns two valid tie rules, which often apply the same criteria.
func (a author) pair() (l, m []api.Step) {
	for {
		l, m = a.ties(1+a.Intn(2)), a.ties(1+a.Intn(2))
		if a.Intn(3) > 0 {
			m = a.rewritten(l)
		}
		if a.Intn(3) == 0 {
			m = append(slices.Clone(m), choice(a.cond(2), []api.Step{by(1 + a.Intn(5))}))
		}
		if typing.Ties(m) == api.OK {
			return l, m
		}
	}
}

// ruleFields are numbers of starters at which the author's tie rules can change, each with the number before it.
func ruleFields() []int { return []int{0, 1, 2, 3, 8, 9, 3998, 3999, 4000} }

// course returns a valid course with the mats s (0), p (1), q (2) and e (3), and some distances with cut-offs.
func (a author) course() (c api.Course) {
	c.Name = "random"
	c.Mats = []api.Mat{{Name: "s", Kind: api.StartM}, {Name: "p", Kind: api.PassM}, {Name: "q", Kind: api.PassM}, {Name: "e", Kind: api.EndM}}
	for from := range 3 {
		for to := 1; to < 4; to++ {
			least := a.Intn(20)
			c.Legs = append(c.Legs, api.Leg{From: from, To: to, Min: least, Max: least + a.Intn(20)})
		}
	}
	for i := range a.Intn(9) {
		c.Distances = append(c.Distances, a.distance("d"+strconv.Itoa(i)))
	}
	for i := range a.Intn(8) {
		from := a.Intn(121)
		c.Categories = append(c.Categories, api.Category{Name: "c" + strconv.Itoa(i), From: from, To: min(from+a.lower(40), 120)})
	}
	c.Ties = a.ties(1)
	return c
}

func (a author) distance(name string) api.Distance {
	d := api.Distance{Name: name, Timing: 1 + a.Intn(3), Extra: -1}
	passed := a.Intn(6)
	d.Route = []api.Part{{Mat: 0}, {Laps: 1 + passed, Parts: []api.Part{{Mat: 1}}}, {Mat: 2}, {Mat: 3}}
	for range a.Intn(4) {
		k := one(a, api.Cutoff{Mat: 0, Lap: 1}, api.Cutoff{Mat: 1, Lap: 1 + a.Intn(1+passed)}, api.Cutoff{Mat: 2, Lap: 1}, api.Cutoff{Mat: 3, Lap: 1})
		k.Limit = one(a, 0, a.Intn(200), a.Intn(200), a.Intn(400), 1<<40)
		d.Cutoffs = append(d.Cutoffs, k)
	}
	return d
}

// eachCourse calls a function with random courses, and one that makes the same course again.
func eachCourse(t *testing.T, many int64, call func(a author, c api.Course, again func() api.Course)) {
	t.Helper()
	for seed := range many {
		a := newAuthor(seed)
		c := a.course()
		if e := typing.Course(c); e != api.OK {
			t.Fatal(c, e)
		}
		call(a, c, func() api.Course { return newAuthor(seed).course() })
	}
}

// wrongRules are tie rules that are not valid, and ones that nearly are not, with the errors.
func wrongRules() []struct {
	l    []api.Step
	want api.Errno
} {
	bib := []api.Step{by(api.BibB)}
	deep := atLeast(api.FieldV, 3)
	for range 17 {
		deep = not(deep)
	}
	var compared []api.Cond
	for n := range 16 {
		compared = append(compared, atLeast(api.FieldV, n))
	}
	wide := choice(api.Cond{Kind: api.OrC, Parts: compared}, bib)
	nested := bib
	for range 17 {
		nested = []api.Step{choice(atLeast(api.ShortV, 1), nested)}
	}
	// Lists that share memory, and stand for many more elements than they consist of.
	sharedSteps, sharedParts := bib, atLeast(api.ShortV, 1)
	for range 16 {
		sharedSteps = []api.Step{choice(atLeast(api.ShortV, 1), sharedSteps, sharedSteps...)}
		sharedParts = api.Cond{Kind: api.OrC, Parts: slices.Repeat([]api.Cond{sharedParts}, 16)}
	}
	return []struct {
		l    []api.Step
		want api.Errno
	}{
		{nil, api.ErrRange},
		{[]api.Step{}, api.ErrRange},
		{[]api.Step{{}}, api.ErrRange},
		{[]api.Step{{Kind: 3, By: api.BibB}}, api.ErrRange},
		{[]api.Step{by(0)}, api.ErrRange},
		{[]api.Step{by(6)}, api.ErrRange},
		{[]api.Step{by(-1)}, api.ErrRange},
		{[]api.Step{choice(api.Cond{}, bib)}, api.ErrRange},
		{[]api.Step{choice(api.Cond{Kind: api.AndC}, bib)}, api.ErrRange},
		{[]api.Step{choice(atLeast(api.ShortV, 1), nil)}, api.ErrRange},
		{[]api.Step{choice(atLeast(api.ShortV, 1), nil, bib...)}, api.ErrRange},
		{[]api.Step{choice(atLeast(4, 1), bib)}, api.ErrRange},
		{[]api.Step{choice(atLeast(-1, 1), bib)}, api.ErrRange},
		{[]api.Step{choice(atLeast(api.FieldV, -1), bib)}, api.ErrRange},
		{[]api.Step{choice(atLeast(api.FieldV, 10001), bib)}, api.ErrRange},
		{slices.Repeat(bib, 65), api.ErrLimit},
		{[]api.Step{choice(deep, bib)}, api.ErrLimit},
		{slices.Repeat([]api.Step{wide}, 16), api.ErrLimit},
		{nested, api.ErrLimit},
		{sharedSteps, api.ErrLimit},
		{[]api.Step{choice(sharedParts, bib)}, api.ErrLimit},
		{slices.Repeat(bib, 64), api.OK},
		{[]api.Step{choice(atLeast(api.FieldV, 10000), bib)}, api.OK},
		{[]api.Step{choice(deep.Parts[0], bib)}, api.OK},
		{slices.Repeat([]api.Step{wide}, 15), api.OK},
		{nested[0].Then, api.OK},
	}
}
