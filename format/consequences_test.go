package format_test

import (
	"reflect"
	"testing"

	"stopwatch/api"
	"stopwatch/format"
	"stopwatch/syntax"
	"stopwatch/typing"
)

// P8.4

// expectReadBack tells whether a text is that of x, and its parse, of which it is the text again, is want.
func expectReadBack[T any, S string | []byte](t *testing.T, x, want T, print func(x T) (S, api.Errno), parse func(src []byte) (T, int, api.Errno)) {
	t.Helper()
	text, e := print(x)
	parsed, at, f := parse([]byte(text))
	if e != api.OK || f != api.OK || !reflect.DeepEqual(parsed, want) {
		t.Errorf("%d, %d at %d, %s:\ngot  %+v\nwant %+v", e, f, at, text, parsed, want)
	}
	if again, e := print(parsed); e != api.OK || string(again) != string(text) {
		t.Errorf("%d\n%s\n%s", e, again, text)
	}
}

func TestCoursesAreReadBack(t *testing.T) {
	check := func(c api.Course) {
		want := simpleCourse(c)
		expectReadBack(t, c, want, format.Course, syntax.Course)
		b, _ := format.Course(c)
		parsed, _, _ := syntax.Course(b)
		expectSame(t, "a parsed course", parsed, want, true)
		expectSame(t, "a parsed course", parsed, c, reflect.DeepEqual(c, want))
	}
	check(harbourCourse())
	check(smallest())
	check(sized(t, 65536))
	eachCourse(t, 1500, func(_ int64, c api.Course) { check(c) })
}

func TestConditionsAreReadBack(t *testing.T) {
	check := func(c api.Cond) { expectReadBack(t, c, simpleCond(c), format.Cond, syntax.Condition) }
	for _, c := range conditions(3) {
		check(unlike(c, new(int)))
	}
	one := atLeast(api.FieldV, 10000)
	for _, layer := range []func(c api.Cond) api.Cond{
		not,
		func(c api.Cond) api.Cond { return and(c) },
		func(c api.Cond) api.Cond { return and(one, c) },
		func(c api.Cond) api.Cond { return or(c, one) },
	} {
		check(nested(api.MaxDepth, one, layer))
	}
	for seed := range int64(5000) {
		if c := newAuthor(seed).condition(6); typing.Cond(c) == api.OK {
			check(c)
		}
	}
}

func TestStepsAreReadBack(t *testing.T) {
	check := func(l []api.Step) { expectReadBack(t, l, simpleSteps(l), format.Steps, syntax.Steps) }
	check(harbourTies())
	deep := nested(api.MaxDepth, by(1), func(s api.Step) api.Step { return ifThen(nested(api.MaxDepth, atLeast(1, 1), not), s) })
	if typing.Ties([]api.Step{deep}) != api.ErrLimit {
		t.Error("272 conditions are too many")
	}
	check(deep.Then)
	for seed := range int64(4000) {
		if l := newAuthor(seed).steps(3); typing.Ties(l) == api.OK {
			check(l)
		}
	}
}

// expectOneText tells whether two valid courses without parts that are alone have one text exactly if they are equal.
func expectOneText(t *testing.T, a, b api.Course) {
	t.Helper()
	x, e := format.Course(a)
	y, f := format.Course(b)
	if e != api.OK || f != api.OK || (string(x) == string(y)) != reflect.DeepEqual(a, b) {
		t.Errorf("%d, %d:\n%s\n%s", e, f, x, y)
	}
}

func TestEqualTexts(t *testing.T) {
	unchanged := harbourCourse()
	changed := 0
	for i := range places(reflect.ValueOf(&unchanged).Elem()) {
		for _, change := range changes() {
			c := harbourCourse()
			change(places(reflect.ValueOf(&c).Elem())[i])
			if typing.Course(c) == api.OK && reflect.DeepEqual(c, simpleCourse(c)) {
				expectOneText(t, unchanged, c)
				changed++
			}
		}
	}
	if changed < 200 {
		t.Error(changed)
	}
	for seed := range int64(3000) {
		a, b := simpleCourse(newAuthor(seed).course()), simpleCourse(newAuthor(seed).course())
		b = altered(newAuthor(-seed), b)
		if typing.Course(a) == api.OK && typing.Course(b) == api.OK && reflect.DeepEqual(b, simpleCourse(b)) {
			expectOneText(t, a, b)
		}
	}
}

// TestDifferentConditions has all small conditions, of which no two without parts that are alone have one text.
func TestDifferentConditions(t *testing.T) {
	texts := map[string]api.Cond{}
	for _, c := range conditions(3) {
		if !reflect.DeepEqual(c, simpleCond(c)) {
			continue
		}
		text, e := format.Cond(c)
		if other, ok := texts[text]; ok || e != api.OK {
			t.Errorf("%d: %q is the text of %+v and %+v", e, text, c, other)
		}
		texts[text] = c
	}
	if len(texts) != 1+37+2*37*37 { // there are 37 parts
		t.Error(len(texts))
	}
}

func TestPrintedConditionsHold(t *testing.T) {
	for seed := range int64(4000) {
		a := newAuthor(seed)
		c := a.condition(5)
		text, e := format.Cond(c)
		if e != api.OK {
			continue
		}
		parsed, _, e := syntax.Condition([]byte(text))
		if e != api.OK {
			t.Errorf("%d: %s", e, text)
		}
		for range 8 {
			x := api.Env{Distance: a.Intn(8), Field: one(a, 0, 1, 6, 7, 3999, 4000, a.Intn(4001)), Short: a.Intn(2)}
			before, e := typing.Holds(c, x)
			after, f := typing.Holds(parsed, x)
			if before != after || e != api.OK || f != api.OK {
				t.Errorf("%s in %+v: got %t, %d and %t, %d", text, x, before, e, after, f)
			}
		}
	}
}
