package typing

import (
	"slices"

	"stopwatch/api"
)

const (
	maxConditions = 256   // conditions of a condition, or of a tie rule
	maxJoined     = 16    // parts of an AndC or OrC
	maxCompared   = 10000 // number that a variable is compared with
)

// form is a condition or a step: a type for each kind.
type form interface {
	// inRange tells whether the numbers of the form are in range, with those of the forms inside of it.
	inRange() bool
}

// The kinds of conditions.
type (
	atLeast  struct{ variable, n int }
	allOf    struct{ parts []form }
	oneOf    struct{ parts []form }
	negation struct{ part form }
)

// The kinds of steps.
type (
	criterion struct{ by int }
	branch    struct {
		cond            form
		then, otherwise []form
	}
)

// misfit is in the place of a condition or step that is of no kind, or has a field that its kind does not have.
type misfit struct{}

func (f atLeast) inRange() bool {
	return within(api.DistanceV, api.ShortV, f.variable) && within(0, maxCompared, f.n)
}

func (f allOf) inRange() bool { return joinedInRange(f.parts) }

func (f oneOf) inRange() bool { return joinedInRange(f.parts) }

func (f negation) inRange() bool { return f.part.inRange() }

func (f criterion) inRange() bool { return within(api.OlderB, api.DrawB, f.by) }

func (f branch) inRange() bool {
	return f.cond.inRange() && stepsInRange(f.then) && all(f.otherwise, form.inRange)
}

func (f misfit) inRange() bool { return false }

// joinedInRange tells whether an AndC or OrC may have these parts.
func joinedInRange(parts []form) bool {
	return within(1, maxJoined, len(parts)) && all(parts, form.inRange)
}

// stepsInRange tells whether a tie rule, or what follows a condition that holds, may consist of these steps.
func stepsInRange(l []form) bool {
	return len(l) > 0 && all(l, form.inRange)
}

// readCondition returns the form of a condition, or the error of Cond.
func readCondition(c api.Cond) (f form, e api.Errno) {
	if !limited([]api.Cond{c}, partsOfCondition, maxConditions) {
		return nil, api.ErrLimit
	}
	if f = conditionForm(c); !f.inRange() {
		return nil, api.ErrRange
	}
	return f, api.OK
}

// readSteps returns the forms of the steps of a tie rule, or the error of Ties.
func readSteps(l []api.Step) (steps []form, e api.Errno) {
	if !limited(l, stepsOfStep, api.MaxSteps) || !limited(conditionsOf(l), partsOfCondition, maxConditions) {
		return nil, api.ErrLimit
	}
	if steps = forms(l, stepForm); !stepsInRange(steps) {
		return nil, api.ErrRange
	}
	return steps, api.OK
}

func partsOfCondition(c api.Cond) [][]api.Cond { return [][]api.Cond{c.Parts} }

func stepsOfStep(s api.Step) [][]api.Step { return [][]api.Step{s.Then, s.Else} }

// conditionsOf returns the conditions of the steps, and of those inside of them, without what stands for no condition.
func conditionsOf(l []api.Step) (conditions []api.Cond) {
	for _, s := range l {
		if !noCondition(s.Cond) {
			conditions = append(conditions, s.Cond)
		}
		for _, m := range stepsOfStep(s) {
			conditions = append(conditions, conditionsOf(m)...)
		}
	}
	return conditions
}

// noCondition tells whether all fields are zero, as in a step that has no condition.
func noCondition(c api.Cond) bool {
	return zero(c.Kind, c.Var, c.N, len(c.Parts))
}

// forms returns the forms of conditions or steps.
func forms[T any](l []T, read func(x T) form) (list []form) {
	for _, x := range l {
		list = append(list, read(x))
	}
	return list
}

func conditionForm(c api.Cond) form {
	onlyParts := zero(c.Var, c.N)
	switch {
	case c.Kind == api.AtLeastC && len(c.Parts) == 0:
		return atLeast{variable: c.Var, n: c.N}
	case c.Kind == api.AndC && onlyParts:
		return allOf{parts: forms(c.Parts, conditionForm)}
	case c.Kind == api.OrC && onlyParts:
		return oneOf{parts: forms(c.Parts, conditionForm)}
	case c.Kind == api.NotC && onlyParts && len(c.Parts) == 1:
		return negation{part: conditionForm(c.Parts[0])}
	}
	return misfit{}
}

func stepForm(s api.Step) form {
	switch {
	case s.Kind == api.ByS && noCondition(s.Cond) && zero(len(s.Then), len(s.Else)):
		return criterion{by: s.By}
	case s.Kind == api.IfS && s.By == 0:
		return branch{cond: conditionForm(s.Cond), then: forms(s.Then, stepForm), otherwise: forms(s.Else, stepForm)}
	}
	return misfit{}
}

// holds tells whether a condition holds.
func holds(f form, x api.Env) bool {
	switch f := f.(type) {
	case atLeast:
		return value(f.variable, x) >= f.n
	case allOf:
		return all(f.parts, func(part form) bool { return holds(part, x) })
	case oneOf:
		return slices.ContainsFunc(f.parts, func(part form) bool { return holds(part, x) })
	case negation:
		return !holds(f.part, x)
	}
	return false
}

// value returns what a variable is.
func value(variable int, x api.Env) int {
	values := [...]int{api.DistanceV: x.Distance, api.FieldV: x.Field, api.ShortV: x.Short}
	return values[variable]
}

// applied returns the criteria by, followed by those that the steps apply, without repetitions.
func applied(by []int, steps []form, x api.Env) []int {
	for _, f := range steps {
		switch f := f.(type) {
		case criterion:
			if !slices.Contains(by, f.by) {
				by = append(by, f.by)
			}
		case branch:
			by = applied(by, f.follows(x), x)
		}
	}
	return by
}

// follows returns the steps that follow the condition.
func (f branch) follows(x api.Env) []form {
	if holds(f.cond, x) {
		return f.then
	}
	return f.otherwise
}
