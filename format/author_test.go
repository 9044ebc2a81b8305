package format_test

import (
	"math/rand"
	"reflect"

	"stopwatch/api"
)

// author invents conditions, steps and courses. Most are valid; the same seed leads to the same ones, which share no memory.
type author struct{ *rand.Rand }

func newAuthor(seed int64) author { return author{rand.New(rand.NewSource(seed))} }

// one returns one of these.
func one[T any](a author, l ...T) T { return l[a.Intn(len(l))] }

// several returns a random number of elements.
func several[T any](a author, least, greatest int, element func() T) (l []T) {
	for range least + a.Intn(greatest-least+1) {
		l = append(l, element())
	}
	return l
}

// time returns a time up to 2^bits.
func (a author) time(bits int) int {
	return one(a, 0, 1, 1000000, 59999999, 60000000, 3600000000, 1<<bits, a.Intn(1<<bits))
}

// condition returns a condition, in which parts that are alone are frequent.
func (a author) condition(depth int) api.Cond {
	part := func() api.Cond { return a.condition(depth - 1) }
	if depth > 0 {
		switch a.Intn(7) {
		case 0:
			return api.Cond{Kind: api.NotC, Parts: several(a, 1, 1, part)}
		case 1, 2:
			return api.Cond{Kind: one(a, api.AndC, api.OrC), Parts: several(a, 1, 1, part)}
		case 3, 4:
			return api.Cond{Kind: one(a, api.AndC, api.OrC), Parts: several(a, 2, 4, part)}
		}
	}
	return api.Cond{Kind: api.AtLeastC, Var: 1 + a.Intn(3), N: one(a, 0, 1, 7, 4000, 10000, a.Intn(10001))}
}

func (a author) steps(depth int) []api.Step {
	return several(a, 1, 3, func() api.Step {
		if depth == 0 || a.Intn(3) > 0 {
			return api.Step{Kind: api.ByS, By: 1 + a.Intn(5)}
		}
		s := api.Step{Kind: api.IfS, Cond: a.condition(3), Then: a.steps(depth - 1)}
		if a.Intn(2) == 0 {
			s.Else = a.steps(depth - 1)
		}
		return s
	})
}

// names returns a function that returns another name each time.
func (a author) names() func() string {
	l := []string{"a", "b", "z9", "turn", "start_", "laps1", "out_of_bounds", "courses", "q_", "a1", "aaaaaaaaaaaaaaaaaaaaaaaa", "aaaaaaaaaaaaaaaaaaaaaaab"}
	a.Shuffle(len(l), func(i, k int) { l[i], l[k] = l[k], l[i] })
	return func() (name string) {
		name, l = l[0], l[1:]
		return name
	}
}

// parts returns parts that consist of some of these mats.
func (a author) parts(mats []int, depth int) []api.Part {
	return several(a, 1, 3, func() api.Part {
		if depth == 0 || a.Intn(2) == 0 {
			return api.Part{Mat: one(a, mats...)}
		}
		return api.Part{Laps: one(a, 1, 2, 3), Parts: a.parts(mats, depth-1)}
	})
}

// expanded returns the expanded route of parts.
func expanded(l []api.Part) (route []int) {
	for _, p := range l {
		if p.Laps == 0 {
			route = append(route, p.Mat)
		}
		for range p.Laps {
			route = append(route, expanded(p.Parts)...)
		}
	}
	return route
}

// distance returns a distance of a course with these mats, between any two of which there are legs.
func (a author) distance(name string, starts, passed, ends []int) api.Distance {
	d := api.Distance{Name: name, Timing: 1 + a.Intn(3), Extra: -1}
	d.Route = append(d.Route, api.Part{Mat: one(a, starts...)})
	if a.Intn(4) > 0 {
		d.Route = append(d.Route, a.parts(passed, 3)...)
		d.Extra = one(a, -1, expanded(d.Route)[1])
	}
	d.Route = append(d.Route, api.Part{Mat: one(a, ends...)})
	if a.Intn(4) == 0 {
		d.Route = []api.Part{{Laps: 1, Parts: d.Route}}
	}
	route := expanded(d.Route)
	d.Cutoffs = several(a, 0, 3, func() api.Cutoff {
		mat := one(a, route...)
		passages := 0
		for _, m := range route {
			if m == mat {
				passages++
			}
		}
		return api.Cutoff{Mat: mat, Lap: 1 + a.Intn(passages), Limit: a.time(40)}
	})
	return d
}

func (a author) offence(name string) api.Offence {
	return one(a, api.Offence{Name: name, Time: a.time(36)}, api.Offence{Name: name, Laps: 1 + a.Intn(64)}, api.Offence{Name: name, Out: true})
}

// course returns a course, with mats of all kinds in any order.
func (a author) course() (c api.Course) {
	name := a.names()
	c.Name = name()
	mats := map[int][]int{}
	for i, k := range a.Perm(6) {
		kind := 1 + k%3
		c.Mats = append(c.Mats, api.Mat{Name: name(), Kind: kind})
		mats[kind] = append(mats[kind], i)
	}
	for _, i := range a.Perm(36) {
		least := a.time(35)
		c.Legs = append(c.Legs, api.Leg{From: i / 6, To: i % 6, Min: least, Max: least + a.time(35)})
	}
	name = a.names()
	c.Distances = several(a, 0, 3, func() api.Distance { return a.distance(name(), mats[1], mats[2], mats[3]) })
	c.Waves = several(a, 0, 3, func() api.Wave { return api.Wave{Name: name(), Gun: a.time(40)} })
	name = a.names()
	c.Offences = several(a, 0, 4, func() api.Offence { return a.offence(name()) })
	c.Categories = several(a, 0, 3, func() api.Category {
		return api.Category{Name: name(), From: a.Intn(61), To: 60 + a.Intn(61)}
	})
	if len(c.Distances) > 0 {
		c.Prizes = several(a, 0, 4, func() api.Prize {
			return api.Prize{Distance: a.Intn(len(c.Distances)), Category: a.Intn(len(c.Categories)+1) - 1, Rank: 1 + a.Intn(4000), Amount: one(a, 1, 1<<50, 1+a.Intn(1<<50))}
		})
	}
	c.Ties = a.steps(3)
	c.Faults = api.Faults{Misses: a.Intn(17), Strays: a.Intn(17), Window: a.time(32), Residual: a.time(32), Drift: a.Intn(100001)}
	c.Fee, c.Deadline = a.Intn(1<<50+1), a.time(40)
	return c
}

// places returns all numbers, texts, truth values and lists inside of a value.
func places(v reflect.Value) (l []reflect.Value) {
	switch v.Kind() {
	case reflect.Struct:
		for i := range v.NumField() {
			l = append(l, places(v.Field(i))...)
		}
		return l
	case reflect.Slice:
		for i := range v.Len() {
			l = append(l, places(v.Index(i))...)
		}
	}
	return append(l, v)
}

// changes returns functions that change a number, text, truth value or list. Not all of them change all lists.
func changes() []func(v reflect.Value) {
	list := func(change func(v reflect.Value)) func(v reflect.Value) {
		return func(v reflect.Value) {
			if v.Kind() == reflect.Slice {
				change(v)
			}
		}
	}
	return []func(v reflect.Value){
		func(v reflect.Value) { change(v, 1) },
		func(v reflect.Value) { change(v, -1) },
		list(func(v reflect.Value) { v.Set(v.Slice(0, 0)) }),
		list(func(v reflect.Value) { v.Set(v.Slice(min(1, v.Len()), v.Len())) }),
		list(func(v reflect.Value) {
			if v.Len() > 1 {
				reflect.Swapper(v.Interface())(0, v.Len()-1)
			}
		}),
	}
}

// change changes a value by a little: a list is made longer or shorter at its end.
func change(v reflect.Value, by int) {
	switch v.Kind() {
	case reflect.Int:
		v.SetInt(v.Int() + int64(by))
	case reflect.String:
		v.SetString(v.String() + string(rune('b'+by)))
	case reflect.Bool:
		v.SetBool(!v.Bool())
	case reflect.Slice:
		if by > 0 {
			v.Set(reflect.Append(v, reflect.Zero(v.Type().Elem())))
		} else if v.Len() > 0 {
			v.Set(v.Slice(0, v.Len()-1))
		}
	}
}

// altered returns x after a change somewhere inside of it.
func altered[T any](a author, x T) T {
	l := places(reflect.ValueOf(&x).Elem())
	one(a, changes()...)(one(a, l...))
	return x
}
