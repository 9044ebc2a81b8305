package analyse_test

import (
	"slices"

	"stopwatch/api"
)

// What the chapter says, word by word and independently of package analyse.

// environments calls f for environments in their order, with these numbers of starters.
func environments(fields []int, f func(x api.Env)) {
	for d := range 8 {
		for _, field := range fields {
			for s := range 2 {
				f(api.Env{Distance: d, Field: field, Short: s})
			}
		}
	}
}

// allFields are all numbers of starters.
func allFields() (l []int) {
	for n := range 4001 {
		l = append(l, n)
	}
	return l
}

func chapterHolds(c api.Cond, x api.Env) bool {
	held := 0
	for _, p := range c.Parts {
		if chapterHolds(p, x) {
			held++
		}
	}
	switch c.Kind {
	case 1:
		return []int{0, x.Distance, x.Field, x.Short}[c.Var] >= c.N
	case 2:
		return held == len(c.Parts)
	case 3:
		return held >= 1
	}
	return held == 0
}

func chapterDirect(l []api.Step, x api.Env) (by []int) {
	var apply func(l []api.Step)
	apply = func(l []api.Step) {
		for _, s := range l {
			switch {
			case s.Kind == 1 && !slices.Contains(by, s.By):
				by = append(by, s.By)
			case s.Kind == 2 && chapterHolds(s.Cond, x):
				apply(s.Then)
			case s.Kind == 2:
				apply(s.Else)
			}
		}
	}
	apply(l)
	return by
}

// chapterPaths returns the paths of the leaves, in order.
func chapterPaths(l []api.Step) (paths [][]int) {
	for i, s := range l {
		if s.Kind == 1 {
			paths = append(paths, []int{i})
		}
		for _, p := range chapterPaths(s.Then) {
			paths = append(paths, slices.Concat([]int{i}, p))
		}
		for _, p := range chapterPaths(s.Else) {
			paths = append(paths, slices.Concat([]int{i, -1 - p[0]}, p[1:]))
		}
	}
	return paths
}

// chapterLeaf returns the criterion of the leaf with a path, and whether it is reached.
func chapterLeaf(l []api.Step, path []int, x api.Env) (by int, reached bool) {
	s := l[path[0]]
	if len(path) == 1 {
		return s.By, true
	}
	if path[1] >= 0 {
		by, reached = chapterLeaf(s.Then, path[1:], x)
		return by, reached && chapterHolds(s.Cond, x)
	}
	by, reached = chapterLeaf(s.Else, slices.Concat([]int{-1 - path[1]}, path[2:]), x)
	return by, reached && !chapterHolds(s.Cond, x)
}

func chapterDead(l []api.Step, fields []int) (dead []api.Dead) {
	paths := chapterPaths(l)
	alive := make([]bool, len(paths))
	environments(fields, func(x api.Env) {
		before := map[int]bool{} // criteria of leaves that are reached
		for i, p := range paths {
			if by, reached := chapterLeaf(l, p, x); reached {
				alive[i] = alive[i] || !before[by]
				before[by] = true
			}
		}
	})
	for i, p := range paths {
		if by, _ := chapterLeaf(l, p, api.Env{}); !alive[i] {
			dead = append(dead, api.Dead{Path: p, By: by})
		}
	}
	return dead
}

// chapterFirst returns the first environment in which something is the case.
func chapterFirst(fields []int, is func(x api.Env) bool) (first api.Env, ok bool) {
	environments(fields, func(x api.Env) {
		if !ok && is(x) {
			first, ok = x, true
		}
	})
	return first, ok
}

func chapterUnbroken(l []api.Step, fields []int) (x api.Env, ok bool) {
	return chapterFirst(fields, func(x api.Env) bool {
		by := chapterDirect(l, x)
		return slices.Index(by, 4) < 0 && slices.Index(by, 5) < 0
	})
}

func chapterEqual(a, b []api.Step, fields []int) (same bool, x api.Env) {
	x, differ := chapterFirst(fields, func(x api.Env) bool {
		return slices.Compare(chapterDirect(a, x), chapterDirect(b, x)) != 0
	})
	return !differ, x
}

// chapterImpossible is for courses without laps inside of laps.
func chapterImpossible(c api.Course) (l []int) {
	for i, d := range c.Distances {
		earliest, latest, possible := 0, 0, true
		passed := map[int]int{}
		before := -1
		pass := func(mat int) {
			for _, leg := range c.Legs {
				if leg.From == before && leg.To == mat {
					earliest, latest = earliest+leg.Min, latest+leg.Max
				}
			}
			before = mat
			passed[mat]++
			for _, k := range d.Cutoffs {
				if k.Mat == mat && k.Lap == passed[mat] {
					latest = min(latest, k.Limit)
				}
			}
			possible = possible && earliest <= latest
		}
		for _, p := range d.Route {
			if p.Laps == 0 {
				pass(p.Mat)
			}
			for range p.Laps {
				pass(p.Parts[0].Mat)
			}
		}
		if !possible {
			l = append(l, i)
		}
	}
	return l
}

func chapterOverlap(c api.Course) (ages []int) {
	categories := map[int]int{}
	for _, k := range c.Categories {
		for age := k.From; age <= k.To; age++ {
			categories[age]++
		}
	}
	for age := 0; age <= 120; age++ {
		if categories[age] > 1 {
			ages = append(ages, age)
		}
	}
	return ages
}
