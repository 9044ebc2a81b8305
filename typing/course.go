package typing

import (
	"strings"

	"stopwatch/api"
	"stopwatch/lexis"
)

const (
	maxParts    = 256     // parts of the route of a distance
	maxDuration = 1 << 36 // time that a leg takes, or that is a penalty
	maxFaults   = 16      // misses, strays
	maxDelay    = 1 << 32 // window, residual
	maxDrift    = 100000  // parts per million

	noMat     = -1 // in the place of the mat whose lap is run again
	everybody = -1 // in the place of the category of a prize

	letters  = "abcdefghijklmnopqrstuvwxyz"
	nameText = letters + "0123456789_" // the bytes of a name
)

// ends are the mats between which a leg lies.
type ends struct{ from, to int }

// counts returns how often each key occurs.
func counts[T any, K comparable](l []T, key func(x T) K) map[K]int {
	many := map[K]int{}
	for _, x := range l {
		many[key(x)]++
	}
	return many
}

// distinct tells whether no key occurs twice.
func distinct[T any, K comparable](l []T, key func(x T) K) bool {
	return len(counts(l, key)) == len(l)
}

// courseLimited tells whether the lists of a course are not too long, and its routes not too deep.
func courseLimited(c api.Course) bool {
	return len(c.Mats) <= api.MaxMats &&
		len(c.Legs) <= api.MaxLegs &&
		len(c.Distances) <= api.MaxDistances &&
		len(c.Waves) <= api.MaxWaves &&
		len(c.Offences) <= api.MaxOffences &&
		len(c.Categories) <= api.MaxCategories &&
		len(c.Prizes) <= api.MaxPrizes &&
		all(c.Distances, func(d api.Distance) bool {
			return len(d.Cutoffs) <= api.MaxCutoffs && limited(d.Route, partsOfPart, maxParts)
		})
}

func partsOfPart(p api.Part) [][]api.Part { return [][]api.Part{p.Parts} }

// courseNamed tells whether the course and everything in it have the names that they need.
func courseNamed(c api.Course) bool {
	return isName(c.Name) &&
		named(c.Mats, func(m api.Mat) string { return m.Name }) &&
		named(c.Distances, func(d api.Distance) string { return d.Name }) &&
		named(c.Waves, func(w api.Wave) string { return w.Name }) &&
		named(c.Offences, func(o api.Offence) string { return o.Name }) &&
		named(c.Categories, func(g api.Category) string { return g.Name })
}

// named tells whether all elements have names, and no two of them the same.
func named[T any](l []T, name func(x T) string) bool {
	for s, many := range counts(l, name) {
		if many > 1 || !isName(s) {
			return false
		}
	}
	return true
}

func isName(s string) bool {
	return s != "" && len(s) <= api.MaxName &&
		strings.TrimLeft(s[:1], letters) == "" && strings.TrimLeft(s, nameText) == "" &&
		!lexis.Keyword(s)
}

// isIndex tells whether all numbers are indices of a list with so many elements.
func isIndex(many int, numbers ...int) bool {
	return within(0, many-1, numbers...)
}

// courseInRange tells whether the numbers of a course are in range, apart from those of its tie rule.
func courseInRange(c api.Course) bool {
	legInRange := func(l api.Leg) bool {
		return isIndex(len(c.Mats), l.From, l.To) && ascending(0, l.Min, l.Max, maxDuration)
	}
	prizeInRange := func(z api.Prize) bool {
		return isIndex(len(c.Distances), z.Distance) &&
			(z.Category == everybody || isIndex(len(c.Categories), z.Category)) &&
			within(1, api.MaxStarters, z.Rank) && within(1, api.MaxAmount, z.Amount)
	}
	return all(c.Mats, func(m api.Mat) bool { return within(api.StartM, api.EndM, m.Kind) }) &&
		all(c.Legs, legInRange) && distinct(c.Legs, endsOf) &&
		all(c.Distances, func(d api.Distance) bool { return distanceInRange(d, len(c.Mats)) }) &&
		all(c.Waves, func(w api.Wave) bool { return within(0, api.MaxTime, w.Gun) }) &&
		all(c.Offences, offenceInRange) &&
		all(c.Categories, func(g api.Category) bool { return ascending(0, g.From, g.To, api.MaxAge) }) &&
		all(c.Prizes, prizeInRange) && distinct(c.Prizes, wonBy) &&
		faultsInRange(c.Faults) &&
		within(0, api.MaxAmount, c.Fee) && within(0, api.MaxTime, c.Deadline)
}

func endsOf(l api.Leg) ends { return ends{from: l.From, to: l.To} }

// wonBy returns who gets a prize: a distance, a category and a rank.
func wonBy(z api.Prize) [3]int { return [3]int{z.Distance, z.Category, z.Rank} }

func distanceInRange(d api.Distance, mats int) bool {
	cutoffInRange := func(k api.Cutoff) bool {
		return isIndex(mats, k.Mat) && k.Lap >= 1 && within(0, api.MaxTime, k.Limit)
	}
	return within(api.GunT, api.SlotT, d.Timing) &&
		partsInRange(d.Route, mats) &&
		all(d.Cutoffs, cutoffInRange) &&
		(d.Extra == noMat || isIndex(mats, d.Extra))
}

func partsInRange(l []api.Part, mats int) bool {
	return all(l, func(p api.Part) bool {
		if p.Laps == 0 {
			return isIndex(mats, p.Mat) && len(p.Parts) == 0
		}
		return within(1, api.MaxLaps, p.Laps) && p.Mat == 0 && len(p.Parts) > 0 && partsInRange(p.Parts, mats)
	})
}

func offenceInRange(o api.Offence) bool {
	switch {
	case o.Out:
		return zero(o.Time, o.Laps)
	case o.Laps != 0:
		return within(1, api.MaxLaps, o.Laps) && o.Time == 0
	}
	return within(0, maxDuration, o.Time)
}

func faultsInRange(f api.Faults) bool {
	return within(0, maxFaults, f.Misses, f.Strays) && within(0, maxDelay, f.Window, f.Residual) && within(0, maxDrift, f.Drift)
}

// courseRouted tells whether all distances of a course have valid routes. Everything else in the course is valid.
func courseRouted(c api.Course) bool {
	legs := counts(c.Legs, endsOf)
	return all(c.Distances, func(d api.Distance) bool { return distanceRouted(d, c.Mats, legs) })
}

func distanceRouted(d api.Distance, mats []api.Mat, legs map[ends]int) bool {
	route := expanded(nil, d.Route)
	passages := counts(route, func(mat int) int { return mat })
	runsAgain := func(mat int) bool {
		return mats[mat].Kind == api.PassM && passages[mat] > 0 && legs[ends{from: mat, to: mat}] > 0
	}
	return within(2, api.MaxRoute, len(route)) &&
		kindsFit(route, mats) &&
		connected(route, legs) &&
		all(d.Cutoffs, func(k api.Cutoff) bool { return k.Lap <= passages[k.Mat] }) &&
		(d.Extra == noMat || runsAgain(d.Extra))
}

// expanded returns the route, followed by the expanded route of the parts. Laps that would make it longer than any valid route are left out.
func expanded(route []int, parts []api.Part) []int {
	for _, p := range parts {
		if p.Laps == 0 {
			route = append(route, p.Mat)
		}
		for lap := 0; lap < p.Laps && len(route) <= api.MaxRoute; lap++ {
			route = expanded(route, p.Parts)
		}
	}
	return route
}

// kindsFit tells whether a route leads from a start to a finish, with neither of these between them.
func kindsFit(route []int, mats []api.Mat) bool {
	for i, mat := range route {
		if mats[mat].Kind != kindAt(i, len(route)-1) {
			return false
		}
	}
	return true
}

// kindAt returns the kind of the mat at a position of a route.
func kindAt(position, last int) int {
	switch position {
	case 0:
		return api.StartM
	case last:
		return api.EndM
	}
	return api.PassM
}

// connected tells whether there is a leg between each two neighbouring positions of a route.
func connected(route []int, legs map[ends]int) bool {
	for i, to := range route[1:] {
		if legs[ends{from: route[i], to: to}] == 0 {
			return false
		}
	}
	return true
}
