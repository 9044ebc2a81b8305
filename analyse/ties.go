package analyse

import (
	"iter"
	"slices"

	"stopwatch/api"
	"stopwatch/typing"
)

// leaf is a step of a tie rule that applies a criterion.
type leaf struct {
	path   []int
	by     int
	guards []guard
}

// guard is what a step that contains a leaf demands: that a condition holds, or that it does not.
type guard struct {
	condition int // an index
	holds     bool
}

// change is a value of a variable from which on a condition may be another one than below it.
type change struct{ variable, value int }

// parts returns the leaves of a valid tie rule in order, and the conditions of its steps, to which the guards refer.
func parts(l []api.Step) (leaves []leaf, conditions []api.Cond) {
	var walk func(l []api.Step, path []int, guards []guard)
	walk = func(l []api.Step, path []int, guards []guard) {
		inElse := len(guards) > 0 && !guards[len(guards)-1].holds
		for i, s := range l {
			if inElse {
				i = -1 - i
			}
			here := extended(path, i)
			if s.Kind == api.ByS {
				leaves = append(leaves, leaf{path: here, by: s.By, guards: guards})
				continue
			}
			condition := len(conditions)
			conditions = append(conditions, s.Cond)
			walk(s.Then, here, extended(guards, guard{condition: condition, holds: true}))
			walk(s.Else, here, extended(guards, guard{condition: condition}))
		}
	}
	walk(l, nil, nil)
	return leaves, conditions
}

// extended returns a list with one more element, in new memory: what follows l in memory may belong to another list.
func extended[T any](l []T, x T) []T { return append(slices.Clip(l), x) }

// holding tells for each of the conditions whether it holds.
func holding(conditions []api.Cond, x api.Env) (held []bool) {
	for _, c := range conditions {
		ok, _ := typing.Holds(c, x) // both are valid
		held = append(held, ok)
	}
	return held
}

// reached reports whether the conditions that hold lead to the leaf.
func (f leaf) reached(held []bool) bool {
	return !slices.ContainsFunc(f.guards, func(g guard) bool { return held[g.condition] != g.holds })
}

// environments yields, in order, the first environment of each range within which no condition changes.
// Whatever depends on the conditions only is the same in the whole range: the first environment in which it is so is among these.
func environments(conditions []api.Cond) iter.Seq[api.Env] {
	changes := changesOf(conditions)
	distances := valuesOf(changes, api.DistanceV, api.MaxDistances-1)
	fields := valuesOf(changes, api.FieldV, api.MaxStarters)
	shorts := valuesOf(changes, api.ShortV, 1)
	return func(yield func(x api.Env) bool) {
		for _, distance := range distances {
			for _, field := range fields {
				for _, short := range shorts {
					if !yield(api.Env{Distance: distance, Field: field, Short: short}) {
						return
					}
				}
			}
		}
	}
}

// changesOf returns the changes of conditions, with those of the conditions inside of them.
func changesOf(conditions []api.Cond) map[change]bool {
	changes := map[change]bool{}
	var collect func(l []api.Cond)
	collect = func(l []api.Cond) {
		for _, c := range l {
			if c.Kind == api.AtLeastC {
				changes[change{variable: c.Var, value: c.N}] = true
			}
			collect(c.Parts)
		}
	}
	collect(conditions)
	return changes
}

// valuesOf returns the values of a variable at which a range begins, in order.
func valuesOf(changes map[change]bool, variable, greatest int) (values []int) {
	for value := range greatest + 1 {
		if value == 0 || changes[change{variable: variable, value: value}] {
			values = append(values, value)
		}
	}
	return values
}
