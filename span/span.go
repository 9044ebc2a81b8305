// Package span calculates with sets of times. See shared/doc/01-span.md.
package span

import (
	"cmp"
	"iter"
	"slices"

	"stopwatch/api"
)

const (
	farthest = 1 << 46 // absolute value of a time of a valid span
	maxPairs = 65536   // pairs of spans whose sums are formed
	maxTime  = 1 << 41 // absolute value of a time whose drift is asked for
	maxDrift = 100000  // parts per million
	million  = 1000000
)

// Check validates a span.
func Check(s api.Span) (e api.Errno) {
	if s.Lo < -farthest || s.Hi > farthest || s.Lo > s.Hi {
		return api.ErrSpan
	}
	return api.OK
}

// Set returns the fewest spans with the same times, in order.
func Set(l []api.Span) (x []api.Span, e api.Errno) {
	if e := checkList(l); e != api.OK {
		return nil, e
	}
	return collect(joined(l))
}

// Union returns the times of both sets.
func Union(a, b []api.Span) (x []api.Span, e api.Errno) {
	if e := checkLists(a, b); e != api.OK {
		return nil, e
	}
	return collect(joined(slices.Concat(a, b)))
}

// Meet returns the times that are in both sets.
func Meet(a, b []api.Span) (x []api.Span, e api.Errno) {
	a, b, e = tidyLists(a, b)
	if e != api.OK {
		return nil, e
	}
	return collect(common(a, b))
}

// Add returns the sums of a time of one set and one of the other.
func Add(a, b []api.Span) (x []api.Span, e api.Errno) {
	a, b, e = tidyLists(a, b)
	if e != api.OK {
		return nil, e
	}
	if len(a)*len(b) > maxPairs {
		return nil, api.ErrLimit
	}
	sums := make([]api.Span, 0, len(a)*len(b))
	for s, t := range pairs(a, b) {
		sum := api.Span{Lo: s.Lo + t.Lo, Hi: s.Hi + t.Hi}
		if e := Check(sum); e != api.OK {
			return nil, e
		}
		sums = append(sums, sum)
	}
	return collect(joined(sums))
}

// Shift returns a set of times, each increased.
func Shift(a []api.Span, by int) (x []api.Span, e api.Errno) {
	x, e = Set(a)
	if e != api.OK {
		return nil, e
	}
	for i, s := range x {
		// The room that is left is compared, since the sum itself may overflow.
		if by < -farthest-s.Lo || by > farthest-s.Hi {
			return nil, api.ErrSpan
		}
		x[i] = api.Span{Lo: s.Lo + by, Hi: s.Hi + by}
	}
	return x, api.OK
}

// Drift returns the greatest difference that a clock gains or loses in a time, rounded up.
func Drift(time, partsPerMillion int) (n int, e api.Errno) {
	if time < -maxTime || time > maxTime || partsPerMillion < 0 || partsPerMillion > maxDrift {
		return 0, api.ErrArg
	}
	product := max(time, -time) * partsPerMillion
	return (product + million - 1) / million, api.OK
}

// In reports whether a time is in a set.
func In(a []api.Span, t int) (ok bool) {
	return slices.ContainsFunc(a, func(s api.Span) bool { return s.Lo <= t && t <= s.Hi })
}

// checkList returns the error of a list.
func checkList(l []api.Span) api.Errno {
	if len(l) > api.MaxSpans {
		return api.ErrLimit
	}
	for _, s := range l {
		if e := Check(s); e != api.OK {
			return e
		}
	}
	return api.OK
}

// checkLists returns the error of the first list, otherwise that of the second one.
func checkLists(a, b []api.Span) api.Errno {
	if e := checkList(a); e != api.OK {
		return e
	}
	return checkList(b)
}

// tidyLists returns the tidy lists of both lists.
func tidyLists(a, b []api.Span) (x, y []api.Span, e api.Errno) {
	if x, e = Set(a); e != api.OK {
		return nil, nil, e
	}
	if y, e = Set(b); e != api.OK {
		return nil, nil, e
	}
	return x, y, api.OK
}

// collect returns what is yielded, as far as a set may have so many elements.
func collect[T any](yielded iter.Seq[T]) (l []T, e api.Errno) {
	for x := range yielded {
		if len(l) == api.MaxSpans {
			return nil, api.ErrLimit
		}
		l = append(l, x)
	}
	return l, api.OK
}

// joined yields the spans of the tidy list with the times of l, which may have any number of elements.
func joined(l []api.Span) iter.Seq[api.Span] {
	return func(yield func(api.Span) bool) {
		sorted := slices.SortedFunc(slices.Values(l), compare)
		// Sums often repeat: most spans of a regular list are dropped here.
		sorted = slices.Compact(sorted)
		for i := 0; i < len(sorted); {
			s := sorted[i]
			// Between whole times that follow each other there is no gap.
			for i++; i < len(sorted) && sorted[i].Lo <= s.Hi+1; i++ {
				s.Hi = max(s.Hi, sorted[i].Hi)
			}
			if !yield(s) {
				return
			}
		}
	}
}

// common yields the spans of the times that are in both of two tidy lists.
// They are tidy too: times that follow each other are in one span of a and in one of b.
func common(a, b []api.Span) iter.Seq[api.Span] {
	return func(yield func(api.Span) bool) {
		for i, k := 0, 0; i < len(a) && k < len(b); {
			s := api.Span{Lo: max(a[i].Lo, b[k].Lo), Hi: min(a[i].Hi, b[k].Hi)}
			if s.Lo <= s.Hi && !yield(s) {
				return
			}
			if a[i].Hi < b[k].Hi {
				i++
			} else {
				k++
			}
		}
	}
}

// pairs yields each span of a with each one of b.
func pairs(a, b []api.Span) iter.Seq2[api.Span, api.Span] {
	return func(yield func(api.Span, api.Span) bool) {
		for _, s := range a {
			for _, t := range b {
				if !yield(s, t) {
					return
				}
			}
		}
	}
}

// compare orders spans by their first times, then by their last ones.
func compare(s, t api.Span) int {
	return cmp.Or(cmp.Compare(s.Lo, t.Lo), cmp.Compare(s.Hi, t.Hi))
}
