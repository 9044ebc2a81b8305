package typing_test

import (
	"fmt"
	"math/big"
	"slices"

	"stopwatch/api"
	"stopwatch/lexis"
)

// What the chapter says of conditions, steps and courses, word by word and independently of package typing.

// same tells whether two values are equal in all fields, whether lists are nil or empty.
func same(x, y any) bool { return fmt.Sprintf("%+v", x) == fmt.Sprintf("%+v", y) }

// firstError returns the first error whose condition is met.
func firstError(l ...any) api.Errno {
	for i := 0; i < len(l); i += 2 {
		if l[i].(bool) {
			return l[i+1].(api.Errno)
		}
	}
	return api.OK
}

// Conditions.

func chapterConditions(c api.Cond) []api.Cond {
	l := []api.Cond{c}
	for _, p := range c.Parts {
		l = append(l, chapterConditions(p)...)
	}
	return l
}

func chapterCondDepth(c api.Cond) (n int) {
	for _, p := range c.Parts {
		n = max(n, 1+chapterCondDepth(p))
	}
	return n
}

// chapterCondFits tells whether one of the kinds holds for a condition, apart from its parts.
func chapterCondFits(c api.Cond) bool {
	onlyParts := same(c, api.Cond{Kind: c.Kind, Parts: c.Parts})
	switch c.Kind {
	case 1:
		return 1 <= c.Var && c.Var <= 3 && 0 <= c.N && c.N <= 10000 && same(c, api.Cond{Kind: 1, Var: c.Var, N: c.N})
	case 2, 3:
		return 1 <= len(c.Parts) && len(c.Parts) <= 16 && onlyParts
	case 4:
		return len(c.Parts) == 1 && onlyParts
	}
	return false
}

func chapterCond(c api.Cond) api.Errno {
	l := chapterConditions(c)
	return firstError(
		len(l) > 256 || chapterCondDepth(c) > 16, api.ErrLimit,
		slices.ContainsFunc(l, func(x api.Cond) bool { return !chapterCondFits(x) }), api.ErrRange,
	)
}

// chapterHolds is for valid conditions and environments.
func chapterHolds(c api.Cond, x api.Env) bool {
	held := 0
	for _, p := range c.Parts {
		if chapterHolds(p, x) {
			held++
		}
	}
	switch c.Kind {
	case 1:
		return map[int]int{1: x.Distance, 2: x.Field, 3: x.Short}[c.Var] >= c.N
	case 2:
		return held == len(c.Parts)
	case 3:
		return held >= 1
	}
	return held == 0
}

// Steps.

func chapterSteps(l []api.Step) (all []api.Step) {
	for _, s := range l {
		all = append(all, s)
		all = append(all, chapterSteps(s.Then)...)
		all = append(all, chapterSteps(s.Else)...)
	}
	return all
}

func chapterStepDepth(l []api.Step) (n int) {
	for _, s := range l {
		if len(s.Then)+len(s.Else) > 0 {
			n = max(n, 1+chapterStepDepth(s.Then), 1+chapterStepDepth(s.Else))
		}
	}
	return n
}

// chapterStepFits tells whether one of the kinds holds for a step, apart from the steps inside of it.
func chapterStepFits(s api.Step) bool {
	switch s.Kind {
	case 1:
		return 1 <= s.By && s.By <= 5 && same(s, api.Step{Kind: 1, By: s.By})
	case 2:
		return chapterCond(s.Cond) == api.OK && len(s.Then) >= 1 && same(s, api.Step{Kind: 2, Cond: s.Cond, Then: s.Then, Else: s.Else})
	}
	return false
}

func chapterTies(l []api.Step) api.Errno {
	steps, conditions, depth := chapterSteps(l), 0, 0
	for _, s := range steps {
		if !same(s.Cond, api.Cond{}) {
			conditions += len(chapterConditions(s.Cond))
			depth = max(depth, chapterCondDepth(s.Cond))
		}
	}
	return firstError(
		len(steps) > 64 || chapterStepDepth(l) > 16 || depth > 16 || conditions > 256, api.ErrLimit,
		len(l) == 0 || slices.ContainsFunc(steps, func(s api.Step) bool { return !chapterStepFits(s) }), api.ErrRange,
	)
}

// chapterDirect is for valid steps and environments.
func chapterDirect(l []api.Step, x api.Env) (by []int) {
	var all []int
	for _, s := range l {
		switch {
		case s.Kind == 1:
			all = append(all, s.By)
		case chapterHolds(s.Cond, x):
			all = append(all, chapterDirect(s.Then, x)...)
		default:
			all = append(all, chapterDirect(s.Else, x)...)
		}
	}
	for i, n := range all {
		if slices.Index(all, n) == i {
			by = append(by, n)
		}
	}
	return by
}

func chapterEnv(x api.Env) api.Errno {
	ok := 0 <= x.Distance && x.Distance <= 7 && 0 <= x.Field && x.Field <= 4000 && (x.Short == 0 || x.Short == 1)
	return firstError(!ok, api.ErrArg)
}

// Courses.

func chapterParts(l []api.Part) (all []api.Part) {
	for _, p := range l {
		all = append(all, p)
		all = append(all, chapterParts(p.Parts)...)
	}
	return all
}

func chapterPartDepth(l []api.Part) (n int) {
	for _, p := range l {
		if len(p.Parts) > 0 {
			n = max(n, 1+chapterPartDepth(p.Parts))
		}
	}
	return n
}

// chapterLength is the length of an expanded route, however large.
func chapterLength(l []api.Part) *big.Int {
	n := new(big.Int)
	for _, p := range l {
		if p.Laps == 0 {
			n.Add(n, big.NewInt(1))
		} else {
			n.Add(n, new(big.Int).Mul(big.NewInt(int64(p.Laps)), chapterLength(p.Parts)))
		}
	}
	return n
}

// chapterRoute is for routes that are not too long.
func chapterRoute(l []api.Part) (mats []int) {
	for _, p := range l {
		if p.Laps == 0 {
			mats = append(mats, p.Mat)
		} else {
			mats = append(mats, slices.Repeat(chapterRoute(p.Parts), p.Laps)...)
		}
	}
	return mats
}

func chapterTooMany(c api.Course) bool {
	for _, d := range c.Distances {
		if len(d.Cutoffs) > 64 || len(chapterParts(d.Route)) > 256 || chapterPartDepth(d.Route) > 16 {
			return true
		}
	}
	return len(c.Mats) > 40 || len(c.Legs) > 512 || len(c.Distances) > 8 || len(c.Waves) > 32 || len(c.Offences) > 32 || len(c.Categories) > 32 || len(c.Prizes) > 32
}

func chapterName(s string) bool {
	for i, c := range []byte(s) {
		if !('a' <= c && c <= 'z' || i > 0 && ('0' <= c && c <= '9' || c == '_')) {
			return false
		}
	}
	return 1 <= len(s) && len(s) <= 24 && !lexis.Keyword(s)
}

// chapterNames returns the names of mats, distances, waves, offences and categories.
func chapterNames(c api.Course) [5][]string {
	var l [5][]string
	for _, x := range c.Mats {
		l[0] = append(l[0], x.Name)
	}
	for _, x := range c.Distances {
		l[1] = append(l[1], x.Name)
	}
	for _, x := range c.Waves {
		l[2] = append(l[2], x.Name)
	}
	for _, x := range c.Offences {
		l[3] = append(l[3], x.Name)
	}
	for _, x := range c.Categories {
		l[4] = append(l[4], x.Name)
	}
	return l
}

func chapterMisnamed(c api.Course) bool {
	for _, l := range chapterNames(c) {
		for i, s := range l {
			if !chapterName(s) || slices.Contains(l[:i], s) {
				return true
			}
		}
	}
	return !chapterName(c.Name)
}

func chapterDistanceFits(d api.Distance, mats int) bool {
	index := func(n int) bool { return 0 <= n && n < mats }
	for _, p := range chapterParts(d.Route) {
		mat := p.Laps == 0 && index(p.Mat) && len(p.Parts) == 0
		laps := 1 <= p.Laps && p.Laps <= 64 && p.Mat == 0 && len(p.Parts) > 0
		if !mat && !laps {
			return false
		}
	}
	for _, k := range d.Cutoffs {
		if !index(k.Mat) || k.Lap < 1 || k.Limit < 0 || k.Limit > 1<<40 {
			return false
		}
	}
	return 1 <= d.Timing && d.Timing <= 3 && (d.Extra == -1 || index(d.Extra))
}

func chapterOffenceFits(o api.Offence) bool {
	return same(o, api.Offence{Name: o.Name, Time: o.Time}) && 0 <= o.Time && o.Time <= 1<<36 ||
		same(o, api.Offence{Name: o.Name, Laps: o.Laps}) && 1 <= o.Laps && o.Laps <= 64 ||
		same(o, api.Offence{Name: o.Name, Out: true})
}

func chapterLegsFit(c api.Course) bool {
	for i, l := range c.Legs {
		if l.From < 0 || l.From >= len(c.Mats) || l.To < 0 || l.To >= len(c.Mats) || l.Min < 0 || l.Min > l.Max || l.Max > 1<<36 {
			return false
		}
		for k, m := range c.Legs {
			if i != k && l.From == m.From && l.To == m.To {
				return false
			}
		}
	}
	return true
}

func chapterPrizesFit(c api.Course) bool {
	for i, z := range c.Prizes {
		if z.Distance < 0 || z.Distance >= len(c.Distances) || z.Category < -1 || z.Category >= len(c.Categories) || z.Rank < 1 || z.Rank > 4000 || z.Amount < 1 || z.Amount > 1<<50 {
			return false
		}
		for k, y := range c.Prizes {
			if i != k && z.Distance == y.Distance && z.Category == y.Category && z.Rank == y.Rank {
				return false
			}
		}
	}
	return true
}

func chapterInRange(c api.Course) bool {
	for _, m := range c.Mats {
		if m.Kind < 1 || m.Kind > 3 {
			return false
		}
	}
	for _, d := range c.Distances {
		if !chapterDistanceFits(d, len(c.Mats)) {
			return false
		}
	}
	for _, w := range c.Waves {
		if w.Gun < 0 || w.Gun > 1<<40 {
			return false
		}
	}
	for _, o := range c.Offences {
		if !chapterOffenceFits(o) {
			return false
		}
	}
	for _, g := range c.Categories {
		if g.From < 0 || g.From > g.To || g.To > 120 {
			return false
		}
	}
	for _, x := range [][2]int{{c.Faults.Misses, 16}, {c.Faults.Strays, 16}, {c.Faults.Window, 1 << 32}, {c.Faults.Residual, 1 << 32}, {c.Faults.Drift, 100000}, {c.Fee, 1 << 50}, {c.Deadline, 1 << 40}} {
		if x[0] < 0 || x[0] > x[1] {
			return false
		}
	}
	return chapterLegsFit(c) && chapterPrizesFit(c)
}

// chapterLegs returns how many legs lead from one mat to another one.
func chapterLegs(c api.Course, from, to int) (n int) {
	for _, l := range c.Legs {
		if l.From == from && l.To == to {
			n++
		}
	}
	return n
}

func chapterRouted(c api.Course, d api.Distance) bool {
	if n := chapterLength(d.Route); n.Cmp(big.NewInt(2)) < 0 || n.Cmp(big.NewInt(256)) > 0 {
		return false
	}
	route, passages := chapterRoute(d.Route), map[int]int{}
	for i, m := range route {
		passages[m]++
		kind := map[bool]int{true: api.PassM}[0 < i && i < len(route)-1]
		kind += map[bool]int{true: api.StartM}[i == 0] + map[bool]int{true: api.EndM}[i == len(route)-1]
		if c.Mats[m].Kind != kind || i > 0 && chapterLegs(c, route[i-1], m) == 0 {
			return false
		}
	}
	for _, k := range d.Cutoffs {
		if passages[k.Mat] < k.Lap {
			return false
		}
	}
	return d.Extra == -1 || c.Mats[d.Extra].Kind == api.PassM && slices.Contains(route, d.Extra) && chapterLegs(c, d.Extra, d.Extra) > 0
}

func chapterCourse(c api.Course) api.Errno {
	e := firstError(chapterTooMany(c), api.ErrLimit, chapterMisnamed(c), api.ErrName, !chapterInRange(c), api.ErrRange)
	if e == api.OK {
		e = chapterTies(c.Ties)
	}
	if e == api.OK {
		e = firstError(slices.ContainsFunc(c.Distances, func(d api.Distance) bool { return !chapterRouted(c, d) }), api.ErrRoute)
	}
	return e
}
