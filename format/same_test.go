package format_test

import (
	"reflect"
	"slices"
	"strings"
	"testing"

	"stopwatch/api"
	"stopwatch/format"
	"stopwatch/typing"
)

// P8.3

func expectSame(t *testing.T, what string, a, b api.Course, want bool) {
	t.Helper()
	if format.Same(a, b) != want || format.Same(b, a) != want {
		t.Errorf("%s: got %t and %t, want %t", what, format.Same(a, b), format.Same(b, a), want)
	}
}

func TestSame(t *testing.T) {
	expectSame(t, "the zero course", api.Course{}, api.Course{}, true)
	expectSame(t, "one course", harbourCourse(), harbourCourse(), true)
	expectSame(t, "two courses", harbourCourse(), smallest(), false)
	expectSame(t, "a course and the zero course", smallest(), api.Course{}, false)
	other := harbourCourse()
	other.Distances[0].Cutoffs[1].Limit++
	expectSame(t, "courses that differ in a cut-off", harbourCourse(), other, false)
	if !reflect.DeepEqual(other.Distances[1:], harbourDistances()[1:]) {
		t.Error("the course was changed")
	}
}

// strange is a course that is not valid, in which every number, text and truth value has something in it, and every list two elements.
func strange() api.Course {
	condition := func(parts ...api.Cond) api.Cond { return api.Cond{Kind: -3, Var: 17, N: -1, Parts: parts} }
	part := func(parts ...api.Part) api.Part { return api.Part{Mat: -5, Laps: 9, Parts: parts} }
	step := func(then, or []api.Step) api.Step {
		return api.Step{Kind: 8, By: 70, Cond: condition(condition(condition(), condition()), condition()), Then: then, Else: or}
	}
	leaf, other := step(nil, nil), api.Step{By: 2}
	c := api.Course{
		Name:       "no name",
		Mats:       []api.Mat{{Name: "x y", Kind: 8}, {Name: "", Kind: -1}},
		Legs:       []api.Leg{{From: 90, To: -8, Min: 5, Max: 3}, {From: 1, To: 2, Min: 3, Max: 4}},
		Waves:      []api.Wave{{Name: "7", Gun: -9}, {Name: "8", Gun: 1 << 62}},
		Offences:   []api.Offence{{Name: "9", Time: -1, Laps: -1, Out: true}, {Name: "10", Time: 1, Laps: 1, Out: true}},
		Categories: []api.Category{{Name: "11", From: 7, To: 6}, {Name: "12", From: -7, To: -6}},
		Prizes:     []api.Prize{{Distance: -4, Category: -5, Rank: -6, Amount: -7}, {Distance: 4, Category: 5, Rank: 6, Amount: 7}},
		Faults:     api.Faults{Misses: -1, Strays: -2, Window: -3, Residual: -4, Drift: -5},
		Fee:        -6,
		Deadline:   -7,
	}
	for _, name := range []string{"13", "14"} {
		c.Distances = append(c.Distances, api.Distance{
			Name: name, Timing: 99, Extra: -100,
			Route:   []api.Part{part(part(part(), part()), part()), part()},
			Cutoffs: []api.Cutoff{{Mat: -1, Lap: -1, Limit: -1}, {Mat: 1, Lap: 1, Limit: 1}},
		})
	}
	c.Ties = []api.Step{step([]api.Step{step([]api.Step{leaf}, []api.Step{leaf}), other}, []api.Step{other, step([]api.Step{leaf}, []api.Step{leaf})}), step(nil, nil)}
	return c
}

// TestEveryPlace changes each number, text, truth value and list of a course.
func TestEveryPlace(t *testing.T) {
	for name, make := range map[string]func() api.Course{"harbour": harbourCourse, "strange": strange} {
		unchanged := make()
		kinds := map[reflect.Kind]int{}
		for i, place := range places(reflect.ValueOf(&unchanged).Elem()) {
			kinds[place.Kind()]++
			for k, change := range changes() {
				c := make()
				change(places(reflect.ValueOf(&c).Elem())[i])
				expectSame(t, name, unchanged, c, reflect.DeepEqual(unchanged, c))
				if k == 0 && reflect.DeepEqual(unchanged, c) {
					t.Error("the first change has to change every place")
				}
			}
		}
		if kinds[reflect.Int] < 150 || kinds[reflect.String] < 11 || kinds[reflect.Bool] < 2 || kinds[reflect.Slice] < 60 {
			t.Error(name, kinds)
		}
	}
}

// TestNilAndEmptyLists replaces all lists without elements by others.
func TestNilAndEmptyLists(t *testing.T) {
	for name, make := range map[string]func() api.Course{"zero": func() api.Course { return api.Course{} }, "smallest": smallest, "harbour": harbourCourse, "strange": strange} {
		empty, none := make(), make()
		replaced := 0
		for _, place := range places(reflect.ValueOf(&empty).Elem()) {
			if place.Kind() == reflect.Slice && place.Len() == 0 {
				place.Set(reflect.MakeSlice(place.Type(), 0, 3))
				replaced++
			}
		}
		if replaced < 8 && name != "strange" || replaced == 0 {
			t.Error(name, replaced)
		}
		expectSame(t, name, empty, none, true)
		expectSame(t, name, empty, empty, true)
	}
}

func TestSameByTheChapter(t *testing.T) {
	equal := 0
	for seed := range int64(4000) {
		a := newAuthor(-seed)
		unchanged := newAuthor(seed).course()
		c := altered(a, newAuthor(seed).course())
		want := reflect.DeepEqual(unchanged, c)
		expectSame(t, "an altered course", unchanged, c, want)
		expectSame(t, "one course", unchanged, newAuthor(seed).course(), true)
		expectSame(t, "two courses", unchanged, newAuthor(seed+1).course(), false)
		if want {
			equal++
		}
	}
	if equal < 100 || equal > 2500 {
		t.Error(equal)
	}
}

func TestSameLeavesCoursesAlone(t *testing.T) {
	a, b := strange(), strange()
	expectSame(t, "strange", a, b, true)
	if !reflect.DeepEqual(a, strange()) || !reflect.DeepEqual(b, strange()) {
		t.Error("a course was changed")
	}
}

// TestSameKeepsOneParts has two courses with one text.
func TestSameKeepsOneParts(t *testing.T) {
	a, b := smallest(), smallest()
	a.Ties = []api.Step{ifThen(and(atLeast(1, 1)), by(1))}
	b.Ties = []api.Step{ifThen(or(atLeast(1, 1)), by(1))}
	expectSame(t, "one part", a, b, false)
	x, _ := format.Course(a)
	y, _ := format.Course(b)
	if len(x) == 0 || !slices.Equal(x, y) {
		t.Errorf("%s\n%s", x, y)
	}
}

// TestSameOfDeepCourses differs at the greatest depth, far beyond what package typing accepts.
func TestSameOfDeepCourses(t *testing.T) {
	const layers = 20000
	deep := func(mat, n, by int) api.Course {
		c := api.Course{Name: strings.Repeat("x", 1000)}
		c.Distances = []api.Distance{{Route: []api.Part{nested(layers, api.Part{Mat: mat}, func(p api.Part) api.Part { return lapsOf(1, p) })}}}
		then := nested(layers, api.Step{By: by}, func(s api.Step) api.Step { return api.Step{Then: []api.Step{s}} })
		c.Ties = []api.Step{{Cond: nested(layers, atLeast(1, n), not)}, then}
		return c
	}
	expectSame(t, "deep courses", deep(1, 1, 1), deep(1, 1, 1), true)
	expectSame(t, "deep parts", deep(1, 1, 1), deep(2, 1, 1), false)
	expectSame(t, "deep conditions", deep(1, 1, 1), deep(1, 2, 1), false)
	expectSame(t, "deep steps", deep(1, 1, 1), deep(1, 1, 2), false)
	if typing.Course(deep(1, 1, 1)) != api.ErrLimit {
		t.Error("not deep")
	}
	expectNoCourse(t, "a deep course", deep(1, 1, 1), api.ErrLimit)
}
