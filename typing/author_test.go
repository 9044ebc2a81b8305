package typing_test

import (
	"math"
	"math/rand"
	"reflect"
	"slices"
	"strconv"
	"strings"
	"testing"

	"stopwatch/api"
	"stopwatch/syntax"
)

// The texts of conditions, steps and courses are shorter than their values.

func read[T any](t *testing.T, parse func(src []byte) (T, int, api.Errno), text string) T {
	t.Helper()
	x, at, e := parse([]byte(text))
	if e != api.OK {
		t.Fatalf("%q: %d at %d", text, e, at)
	}
	return x
}

func condition(t *testing.T, text string) api.Cond { return read(t, syntax.Condition, text) }

func steps(t *testing.T, text string) []api.Step { return read(t, syntax.Steps, text) }

func course(t *testing.T, text string) api.Course { return read(t, syntax.Course, text) }

// author invents conditions, steps and courses that are valid.
type author struct{ *rand.Rand }

func newAuthor(seed int64) *author { return &author{rand.New(rand.NewSource(seed))} }

// lower returns a number below n, mostly a small one.
func (a *author) lower(n int) int { return a.Intn(1 + a.Intn(n)) }

func (a *author) env() api.Env {
	return api.Env{Distance: a.Intn(8), Field: []int{0, 1, 2, 3, 99, 100, 3999, 4000, a.Intn(4001)}[a.Intn(9)], Short: a.Intn(2)}
}

// cond returns a condition, and a function that says where it holds.
func (a *author) cond(depth int) (c api.Cond, holds func(x api.Env) bool) {
	c.Kind = 1 + a.Intn(4)
	if depth == 0 || a.Intn(3) == 0 {
		c.Kind = api.AtLeastC
	}
	many := map[int]int{api.AtLeastC: 0, api.AndC: 1 + a.lower(5), api.OrC: 1 + a.lower(5), api.NotC: 1}[c.Kind]
	var parts []func(x api.Env) bool
	for range many {
		p, h := a.cond(depth - 1)
		c.Parts, parts = append(c.Parts, p), append(parts, h)
	}
	switch c.Kind {
	case api.AtLeastC:
		c.Var, c.N = 1+a.Intn(3), []int{0, 1, 2, 3, 7, 8, 100, 4000, 4001, 10000, a.Intn(10001)}[a.Intn(11)]
		return c, func(x api.Env) bool { return [...]int{0, x.Distance, x.Field, x.Short}[c.Var] >= c.N }
	case api.NotC:
		return c, func(x api.Env) bool { return !parts[0](x) }
	}
	decisive := c.Kind == api.OrC // the value of a part that decides
	return c, func(x api.Env) bool {
		for _, h := range parts {
			if h(x) == decisive {
				return decisive
			}
		}
		return !decisive
	}
}

func (a *author) steps(depth int) (l []api.Step) {
	for range 1 + a.lower(5) {
		if depth == 0 || a.Intn(3) > 0 {
			l = append(l, api.Step{Kind: api.ByS, By: 1 + a.Intn(5)})
			continue
		}
		s := api.Step{Kind: api.IfS, Then: a.steps(depth - 1)}
		s.Cond, _ = a.cond(2)
		if a.Intn(2) == 0 {
			s.Else = a.steps(depth - 1)
		}
		l = append(l, s)
	}
	return l
}

// names returns different names.
func (a *author) names(many int) []string {
	l := []string{"a", "b", "start1", "laps_", "out_of_bounds", "x9", "c_", "zz", "aaaaaaaaaaaaaaaaaaaaaaaa", "aaaaaaaaaaaaaaaaaaaaaaab"}
	a.Shuffle(len(l), func(i, k int) { l[i], l[k] = l[k], l[i] })
	return l[:many]
}

// parts returns parts whose expanded route consists of these mats.
func (a *author) parts(mats []int, depth int) (l []api.Part) {
	for len(mats) > 0 {
		size := 1 + a.Intn(len(mats))
		if depth == 0 || a.Intn(2) == 0 {
			l, mats = append(l, api.Part{Mat: mats[0]}), mats[1:]
			continue
		}
		laps := 1
		for len(mats) >= size*(laps+1) && slices.Equal(mats[:size], mats[size*laps:size*(laps+1)]) && laps < 64 {
			laps++
		}
		l = append(l, api.Part{Laps: laps, Parts: a.parts(mats[:size], depth-1)})
		mats = mats[size*laps:]
	}
	return l
}

// route returns the mats of a route through a course of 2 starts, 3 other mats and 2 finishes.
func (a *author) route() []int {
	l := []int{a.Intn(2)}
	for range a.lower(5) {
		round := []int{2 + a.Intn(3), 2 + a.Intn(3), 2 + a.Intn(3)}[a.Intn(3):]
		l = append(l, slices.Repeat(round, 1+a.lower(8))...)
	}
	return append(l, 5+a.Intn(2))
}

func (a *author) distance(name string) (d api.Distance, route []int) {
	route = a.route()
	d = api.Distance{Name: name, Route: a.parts(route, 3), Timing: 1 + a.Intn(3), Extra: -1}
	passages := map[int]int{}
	for _, m := range route {
		passages[m]++
	}
	for range a.lower(4) {
		m := route[a.Intn(len(route))]
		d.Cutoffs = append(d.Cutoffs, api.Cutoff{Mat: m, Lap: 1 + a.Intn(passages[m]), Limit: []int{0, 1, 1 << 40, a.Intn(1 << 40)}[a.Intn(4)]})
	}
	if len(route) > 2 && a.Intn(2) == 0 {
		d.Extra = route[1+a.Intn(len(route)-2)]
	}
	return d, route
}

// leg adds a leg between two mats, unless there is one.
func (a *author) leg(c *api.Course, from, to int) {
	if chapterLegs(*c, from, to) == 0 {
		least := []int{0, 1, 1 << 36, a.Intn(1 << 36)}[a.Intn(4)]
		most := []int{least, 1 << 36, least + a.Intn(1<<36-least+1)}[a.Intn(3)]
		c.Legs = append(c.Legs, api.Leg{From: from, To: to, Min: least, Max: most})
	}
}

func (a *author) offence(name string) api.Offence {
	return []api.Offence{
		{Name: name},
		{Name: name, Time: 1 + a.Intn(1<<36)},
		{Name: name, Time: 1 << 36},
		{Name: name, Laps: 1 + a.Intn(64)},
		{Name: name, Out: true},
	}[a.Intn(5)]
}

// course returns a course whose distances have routes with all of their legs.
func (a *author) course() (c api.Course) {
	c.Name = a.names(1)[0]
	for i, name := range a.names(7 + a.Intn(3)) {
		c.Mats = append(c.Mats, api.Mat{Name: name, Kind: []int{1, 1, 2, 2, 2, 3, 3, 1, 2, 3}[i]})
	}
	for _, name := range a.names(a.Intn(4)) {
		d, route := a.distance(name)
		for i, to := range route[1:] {
			a.leg(&c, route[i], to)
		}
		if d.Extra >= 0 {
			a.leg(&c, d.Extra, d.Extra)
		}
		c.Distances = append(c.Distances, d)
	}
	for _, name := range a.names(a.Intn(4)) {
		c.Waves = append(c.Waves, api.Wave{Name: name, Gun: []int{0, 1 << 40, a.Intn(1 << 40)}[a.Intn(3)]})
	}
	for _, name := range a.names(a.Intn(5)) {
		c.Offences = append(c.Offences, a.offence(name))
	}
	for _, name := range a.names(a.Intn(4)) {
		from := a.Intn(121)
		c.Categories = append(c.Categories, api.Category{Name: name, From: from, To: from + a.Intn(121-from)})
	}
	for rank := range a.Intn(5) * min(1, len(c.Distances)) {
		c.Prizes = append(c.Prizes, api.Prize{Distance: a.Intn(len(c.Distances)), Category: a.Intn(len(c.Categories)+1) - 1, Rank: 1 + rank, Amount: 1 + a.Intn(1<<50)})
	}
	c.Ties = a.steps(3)
	c.Faults = api.Faults{Misses: a.Intn(17), Strays: a.Intn(17), Window: a.Intn(1<<32 + 1), Residual: a.Intn(1<<32 + 1), Drift: a.Intn(100001)}
	c.Fee, c.Deadline = a.Intn(1<<50+1), a.Intn(1<<40+1)
	return c
}

// copied returns a value that shares no memory with v.
func copied[T any](v T) T {
	var deep func(v reflect.Value) reflect.Value
	deep = func(v reflect.Value) reflect.Value {
		x := reflect.New(v.Type()).Elem()
		x.Set(v)
		switch v.Kind() {
		case reflect.Struct:
			for i := range v.NumField() {
				x.Field(i).Set(deep(v.Field(i)))
			}
		case reflect.Slice:
			x.Set(reflect.MakeSlice(v.Type(), v.Len(), v.Len()))
			for i := range v.Len() {
				x.Index(i).Set(deep(v.Index(i)))
			}
		}
		return x
	}
	return deep(reflect.ValueOf(v)).Interface().(T)
}

// alter changes something inside of a value: a number, a text or a list.
func (a *author) alter(v reflect.Value) {
	switch v.Kind() {
	case reflect.Struct:
		a.alter(v.Field(a.Intn(v.NumField())))
	case reflect.Slice:
		if v.Len() == 0 || a.Intn(4) == 0 {
			a.alterList(v)
			return
		}
		a.alter(v.Index(a.Intn(v.Len())))
	case reflect.Int:
		v.SetInt(int64(a.strange(int(v.Int()))))
	case reflect.String:
		v.SetString([]string{"", "a", "b", "laps", "Laps", "a b", "1a", "_a", "x_1", "ä", "a-", strings.Repeat("a", 24), strings.Repeat("a", 25)}[a.Intn(13)])
	case reflect.Bool:
		v.SetBool(!v.Bool())
	}
}

// strange returns another number, often one at a limit.
func (a *author) strange(n int) int {
	limits := []int{0, 2, 3, 4, 5, 7, 16, 64, 120, 4000, 10000, 100000, 1 << 32, 1 << 36, 1 << 40, 1 << 50}
	switch a.Intn(4) {
	case 0:
		return n - 1
	case 1:
		return n + 1
	case 2:
		return limits[a.Intn(len(limits))] + a.Intn(3) - 1
	}
	return []int{math.MinInt, math.MaxInt, -1, 0}[a.Intn(4)]
}

// alterList changes the elements that a list has.
func (a *author) alterList(v reflect.Value) {
	many := v.Len()
	switch {
	case many == 0 || a.Intn(8) == 0:
		v.Set(reflect.Append(v, reflect.Zero(v.Type().Elem())))
	case a.Intn(2) == 0:
		i := a.Intn(many)
		v.Set(reflect.AppendSlice(v.Slice3(0, i, i), v.Slice(i+1, many)))
	case a.Intn(4) == 0:
		v.Set(v.Slice(0, 0))
	default:
		x := copied(v.Index(a.Intn(many)).Interface())
		i := a.Intn(many + 1)
		tail := reflect.AppendSlice(reflect.MakeSlice(v.Type(), 0, many), v.Slice(i, many))
		v.Set(reflect.AppendSlice(reflect.Append(v.Slice3(0, i, i), reflect.ValueOf(x)), tail))
	}
}

// altered returns a value like x, apart from few things inside of it.
func altered[T any](a *author, x T) T {
	x = copied(x)
	for range 1 + a.lower(3) {
		a.alter(reflect.ValueOf(&x).Elem())
	}
	return x
}

// numbered returns a name for each number.
func numbered(i int) string { return "n" + strconv.Itoa(i) }
