package span_test

import (
	"math"
	"math/big"
	"math/rand"
	"slices"
	"testing"

	"stopwatch/api"
	"stopwatch/span"
)

const farthest = 1 << 46

// spans returns the list of the spans whose bounds are given in turn.
func spans(bounds ...int) []api.Span {
	var l []api.Span
	for i := 0; i+1 < len(bounds); i += 2 {
		l = append(l, api.Span{Lo: bounds[i], Hi: bounds[i+1]})
	}
	return l
}

// row returns many spans of the same width, the first one at from, each one step after the one before.
func row(from, step, width, many int) []api.Span {
	l := make([]api.Span, many)
	for i := range l {
		l[i] = api.Span{Lo: from + i*step, Hi: from + i*step + width}
	}
	return l
}

type operation func(a, b []api.Span) ([]api.Span, api.Errno)

// set and shiftBy0 make operations on two lists of those on one, so that their errors can be tested alike.
func set(a, _ []api.Span) ([]api.Span, api.Errno)      { return span.Set(a) }
func shiftBy0(a, _ []api.Span) ([]api.Span, api.Errno) { return span.Shift(a, 0) }

func expect(t *testing.T, what string, got []api.Span, e api.Errno, want []api.Span, wantE api.Errno) {
	t.Helper()
	if e != wantE || !slices.Equal(got, want) {
		t.Errorf("%s: got %v, %d; want %v, %d", what, short(got), e, short(want), wantE)
	}
}

func expectSize(t *testing.T, what string, got []api.Span, e api.Errno, many int) {
	t.Helper()
	if e != api.OK || len(got) != many {
		t.Errorf("%s: got %d spans, %d; want %d spans", what, len(got), e, many)
	}
}

func short(l []api.Span) []api.Span { return l[:min(len(l), 8)] }

// times is a set of times as a map, by which the lists of small times are judged.
type times map[int]bool

func timesOf(l []api.Span) times {
	s := times{}
	for _, x := range l {
		for t := x.Lo; t <= x.Hi; t++ {
			s[t] = true
		}
	}
	return s
}

// tidy returns the tidy list of times, found by looking at every time of a range.
func (s times) tidy() []api.Span {
	var l []api.Span
	for t := -100; t <= 100; t++ {
		if s[t] && !s[t-1] {
			l = append(l, api.Span{Lo: t, Hi: t})
		}
		if s[t] {
			l[len(l)-1].Hi = t
		}
	}
	return l
}

func bothOf(a, b times) times {
	s := times{}
	for t := range a {
		if b[t] {
			s[t] = true
		}
	}
	return s
}

func sumsOf(a, b times) times {
	s := times{}
	for t := range a {
		for u := range b {
			s[t+u] = true
		}
	}
	return s
}

// smallLists returns all lists of at most two spans of times from lo to hi.
func smallLists(lo, hi int) [][]api.Span {
	var single []api.Span
	for from := lo; from <= hi; from++ {
		for to := from; to <= hi; to++ {
			single = append(single, api.Span{Lo: from, Hi: to})
		}
	}
	lists := [][]api.Span{nil}
	for _, s := range single {
		lists = append(lists, []api.Span{s})
		for _, u := range single {
			lists = append(lists, []api.Span{s, u})
		}
	}
	return lists
}

// randomList returns a list of at most most spans of times from -40 to 40, in no order.
func randomList(r *rand.Rand, most int) []api.Span {
	l := make([]api.Span, r.Intn(most+1))
	for i := range l {
		lo := r.Intn(76) - 40
		l[i] = api.Span{Lo: lo, Hi: lo + r.Intn(5)}
	}
	return l
}

// otherList returns another list of the same times: each span is split, parts come twice, and the order is changed.
func otherList(r *rand.Rand, l []api.Span) []api.Span {
	var out []api.Span
	for _, s := range l {
		cut := s.Lo + r.Intn(s.Hi-s.Lo+1)
		out = append(out, api.Span{Lo: s.Lo, Hi: cut}, api.Span{Lo: cut, Hi: s.Hi})
		if cut < s.Hi {
			out[len(out)-1].Lo = cut + r.Intn(2)
		}
		if r.Intn(2) == 0 {
			out = append(out, s)
		}
	}
	r.Shuffle(len(out), func(i, k int) { out[i], out[k] = out[k], out[i] })
	return out
}

// P1.1

func TestCheck(t *testing.T) {
	for i, x := range []struct {
		lo, hi int
		want   api.Errno
	}{
		{0, 0, api.OK}, {1, 2, api.OK}, {-5, -5, api.OK}, {-5, 7, api.OK},
		{-farthest, farthest, api.OK}, {farthest, farthest, api.OK}, {-farthest, -farthest, api.OK},
		{3, 2, api.ErrSpan}, {0, -1, api.ErrSpan}, {farthest, -farthest, api.ErrSpan},
		{-farthest - 1, 0, api.ErrSpan}, {-farthest - 1, -farthest - 1, api.ErrSpan},
		{0, farthest + 1, api.ErrSpan}, {farthest + 1, farthest + 1, api.ErrSpan},
		{math.MinInt, math.MaxInt, api.ErrSpan}, {math.MaxInt, math.MinInt, api.ErrSpan},
		{math.MinInt, 0, api.ErrSpan}, {0, math.MaxInt, api.ErrSpan},
	} {
		if e := span.Check(api.Span{Lo: x.lo, Hi: x.hi}); e != x.want {
			t.Errorf("%d: got %d, want %d", i, e, x.want)
		}
	}
}

func TestIn(t *testing.T) {
	for i, x := range []struct {
		l    []api.Span
		t    int
		want bool
	}{
		{nil, 0, false},
		{spans(3, 2), 2, false}, {spans(3, 2), 3, false},
		{spans(1, 3), 0, false}, {spans(1, 3), 1, true}, {spans(1, 3), 2, true}, {spans(1, 3), 3, true}, {spans(1, 3), 4, false},
		{spans(9, 9, 3, 4, 2, 1), 4, true}, {spans(9, 9, 3, 4, 2, 1), 9, true}, {spans(9, 9, 3, 4, 2, 1), 5, false},
		{spans(9, 9, 3, 4, 2, 1), 1, false},
		{spans(-5, -3), -4, true}, {spans(-5, -3), 4, false},
		{spans(math.MinInt, math.MaxInt), math.MinInt, true}, {spans(math.MinInt, math.MaxInt), math.MaxInt, true},
		{spans(math.MaxInt, math.MinInt), 0, false},
		{spans(farthest+1, farthest+2), farthest + 2, true},
		{row(0, 2, 0, 5000), 9998, true}, {row(0, 2, 0, 5000), 9999, false},
	} {
		if ok := span.In(x.l, x.t); ok != x.want {
			t.Errorf("%d: got %v", i, ok)
		}
	}
}

func TestSet(t *testing.T) {
	for _, x := range []struct {
		what    string
		l, want []api.Span
	}{
		{"no spans", nil, nil},
		{"an empty list", []api.Span{}, nil},
		{"the example", spans(5, 6, 1, 2, 3, 3), spans(1, 3, 5, 6)},
		{"a gap of one time", spans(1, 2, 4, 5), spans(1, 2, 4, 5)},
		{"no gap", spans(3, 5, 1, 2), spans(1, 5)},
		{"a span inside of another", spans(1, 9, 3, 4, 9, 10), spans(1, 10)},
		{"the longer one later", spans(1, 2, 1, 9, 1, 4), spans(1, 9)},
		{"equal spans", spans(7, 7, 7, 7), spans(7, 7)},
		{"around zero", spans(0, 0, -3, -2, -1, -1, 2, 2), spans(-3, 0, 2, 2)},
		{"the ends", spans(farthest, farthest, -farthest, -farthest), spans(-farthest, -farthest, farthest, farthest)},
		{"up to the end", spans(farthest, farthest, 0, farthest-1), spans(0, farthest)},
	} {
		got, e := span.Set(x.l)
		expect(t, x.what, got, e, x.want, api.OK)
	}
	got, e := span.Set(row(8190, -2, 0, 4096))
	expect(t, "as many as possible", got, e, row(0, 2, 0, 4096), api.OK)
}

func TestUnionAndMeet(t *testing.T) {
	for _, x := range []struct {
		what              string
		a, b, union, meet []api.Span
	}{
		{"nothing", nil, nil, nil, nil},
		{"nothing with something", nil, spans(3, 3, 1, 2), spans(1, 3), nil},
		{"the example", spans(1, 5), spans(4, 9), spans(1, 9), spans(4, 5)},
		{"one common time", spans(1, 4), spans(4, 9), spans(1, 9), spans(4, 4)},
		{"neighbours", spans(1, 3), spans(4, 9), spans(1, 9), nil},
		{"apart", spans(1, 3), spans(5, 9), spans(1, 3, 5, 9), nil},
		{"inside", spans(1, 9), spans(3, 4, 6, 6), spans(1, 9), spans(3, 4, 6, 6)},
		{"not tidy", spans(5, 8, 1, 5), spans(7, 9, 2, 2, 3, 3), spans(1, 9), spans(2, 3, 7, 8)},
		{"interleaved", spans(0, 2, 4, 6, 8, 10), spans(1, 5, 9, 9), spans(0, 6, 8, 10), spans(1, 2, 4, 5, 9, 9)},
		{"the ends", spans(-farthest, farthest), spans(farthest, farthest, -farthest, -farthest), spans(-farthest, farthest), spans(-farthest, -farthest, farthest, farthest)},
	} {
		u, e := span.Union(x.a, x.b)
		expect(t, x.what+", union", u, e, x.union, api.OK)
		u, e = span.Union(x.b, x.a)
		expect(t, x.what+", union, exchanged", u, e, x.union, api.OK)
		m, e := span.Meet(x.a, x.b)
		expect(t, x.what+", meet", m, e, x.meet, api.OK)
		m, e = span.Meet(x.b, x.a)
		expect(t, x.what+", meet, exchanged", m, e, x.meet, api.OK)
	}
}

func TestSizesOfUnions(t *testing.T) {
	u, e := span.Union(row(0, 4, 0, 2048), row(2, 4, 0, 2048))
	expect(t, "4096 spans", u, e, row(0, 2, 0, 4096), api.OK)
	u, e = span.Union(row(0, 2, 0, 4096), spans(8192, 8192))
	expect(t, "4097 spans", u, e, nil, api.ErrLimit)
	u, e = span.Union(row(0, 2, 0, 4096), spans(8191, 8191))
	expectSize(t, "the last span becomes longer", u, e, 4096)
	u, e = span.Union(row(0, 2, 0, 4096), row(1, 2, 0, 4096))
	expect(t, "8192 elements", u, e, spans(0, 8191), api.OK)
}

func TestSizesOfMeets(t *testing.T) {
	m, e := span.Meet(row(0, 4, 2, 2049), row(2, 4, 2, 2048))
	expect(t, "4096 spans", m, e, row(2, 2, 0, 4096), api.OK)
	m, e = span.Meet(row(0, 4, 2, 2049), row(2, 4, 2, 2049))
	expect(t, "4097 spans", m, e, nil, api.ErrLimit)
	m, e = span.Meet(row(0, 4, 2, 4096), row(0, 4, 2, 4096))
	expectSize(t, "equal lists", m, e, 4096)
}

func TestErrorsOfLists(t *testing.T) {
	good, long := spans(1, 2), row(0, 0, 0, 4097)
	bad := [][]api.Span{
		spans(2, 1), spans(-farthest-1, 0), spans(0, farthest+1), spans(0, 0, 5, 4), spans(5, 4, 0, 0),
		spans(math.MinInt, math.MaxInt), slices.Concat(row(0, 2, 0, 4095), spans(1, 0)),
	}
	longBad := slices.Concat(row(0, 2, 0, 4096), spans(1, 0))
	for name, f := range map[string]operation{"Set": set, "Shift": shiftBy0, "Union": span.Union, "Meet": span.Meet, "Add": span.Add} {
		for _, l := range bad {
			x, e := f(l, good)
			expect(t, name+" of a list that is not valid", x, e, nil, api.ErrSpan)
			x, e = f(l, long)
			expect(t, name+": the error of the first list comes first", x, e, nil, api.ErrSpan)
		}
		x, e := f(long, good)
		expect(t, name+" of a long list", x, e, nil, api.ErrLimit)
		x, e = f(longBad, bad[0])
		expect(t, name+" of a long list that is not valid", x, e, nil, api.ErrLimit)
		x, e = f(row(3, 0, 0, 4096), nil)
		if e != api.OK {
			t.Errorf("%s of 4096 elements: got %v, %d", name, short(x), e)
		}
	}
	for name, f := range map[string]operation{"Union": span.Union, "Meet": span.Meet, "Add": span.Add} {
		for _, a := range [][]api.Span{nil, good} {
			for _, l := range bad {
				x, e := f(a, l)
				expect(t, name+" with a second list that is not valid", x, e, nil, api.ErrSpan)
			}
			x, e := f(a, long)
			expect(t, name+" with a long second list", x, e, nil, api.ErrLimit)
			x, e = f(a, longBad)
			expect(t, name+" with a long second list that is not valid", x, e, nil, api.ErrLimit)
		}
	}
}

func TestAgainstSetsOfTimes(t *testing.T) {
	lists := smallLists(-2, 3)
	sets := make([]times, len(lists))
	for i, l := range lists {
		sets[i] = timesOf(l)
		x, e := span.Set(l)
		expect(t, "Set", x, e, sets[i].tidy(), api.OK)
	}
	for i, a := range lists {
		for k := i % 7; k < len(lists); k += 7 {
			b := lists[k]
			x, e := span.Union(a, b)
			expect(t, "Union", x, e, timesOf(slices.Concat(a, b)).tidy(), api.OK)
			x, e = span.Meet(a, b)
			expect(t, "Meet", x, e, bothOf(sets[i], sets[k]).tidy(), api.OK)
			x, e = span.Add(a, b)
			expect(t, "Add", x, e, sumsOf(sets[i], sets[k]).tidy(), api.OK)
		}
	}
}

func TestLongerListsAgainstSetsOfTimes(t *testing.T) {
	r := rand.New(rand.NewSource(1))
	for range 2000 {
		a, b := randomList(r, 12), randomList(r, 12)
		p, q := timesOf(a), timesOf(b)
		x, e := span.Set(a)
		expect(t, "Set", x, e, p.tidy(), api.OK)
		x, e = span.Union(a, b)
		expect(t, "Union", x, e, timesOf(slices.Concat(a, b)).tidy(), api.OK)
		x, e = span.Meet(a, b)
		expect(t, "Meet", x, e, bothOf(p, q).tidy(), api.OK)
		x, e = span.Add(a, b)
		expect(t, "Add", x, e, sumsOf(p, q).tidy(), api.OK)
		for time := -45; time <= 45; time++ {
			if span.In(a, time) != p[time] {
				t.Errorf("In(%v, %d) is wrong", a, time)
			}
		}
	}
}

// P1.2

func TestAdd(t *testing.T) {
	for _, x := range []struct {
		what       string
		a, b, want []api.Span
	}{
		{"nothing", nil, nil, nil},
		{"nothing and something", nil, spans(1, 2), nil},
		{"the example", spans(0, 1, 10, 11), spans(0, 0, 5, 5), spans(0, 1, 5, 6, 10, 11, 15, 16)},
		{"sums that overlap", spans(0, 4, 10, 14), spans(0, 6), spans(0, 20)},
		{"sums that follow each other", spans(0, 4, 10, 14), spans(0, 5), spans(0, 19)},
		{"sums with a gap", spans(0, 4, 10, 14), spans(0, 4), spans(0, 8, 10, 18)},
		{"negative times", spans(-3, -1), spans(1, 1, 2, 2), spans(-2, 1)},
		{"up to the ends", spans(-farthest, farthest), spans(0, 0), spans(-farthest, farthest)},
		{"far times that add up to near ones", spans(-farthest, -farthest), spans(farthest-1, farthest), spans(-1, 0)},
		{"sums at the ends", spans(farthest-1, farthest-1), spans(-3, 1), spans(farthest-4, farthest)},
	} {
		y, e := span.Add(x.a, x.b)
		expect(t, x.what, y, e, x.want, api.OK)
		y, e = span.Add(x.b, x.a)
		expect(t, x.what+", exchanged", y, e, x.want, api.OK)
	}
	for i, x := range []struct{ a, b []api.Span }{
		{spans(0, farthest), spans(0, 1)},
		{spans(0, farthest), spans(1, 1)},
		{spans(-farthest, 0), spans(-1, 0)},
		{spans(-farthest, -farthest), spans(-1, -1)},
		{spans(farthest, farthest), spans(farthest, farthest)},
		{spans(0, 0, farthest, farthest), spans(0, 0, 2, 2)},
		{spans(-farthest, -farthest, 0, 0), spans(-2, -2, 0, 0)},
	} {
		y, e := span.Add(x.a, x.b)
		expect(t, "sums out of range "+string(rune('0'+i)), y, e, nil, api.ErrSpan)
	}
}

func TestSizesOfSums(t *testing.T) {
	x, e := span.Add(row(0, 2, 0, 256), row(0, 2, 0, 256))
	expect(t, "65536 pairs", x, e, row(0, 2, 0, 511), api.OK)
	x, e = span.Add(row(0, 2, 0, 198), row(0, 2, 0, 331))
	expect(t, "65538 pairs", x, e, nil, api.ErrLimit)
	x, e = span.Add(row(0, 2, 0, 4096), row(0, 2, 0, 16))
	expect(t, "65536 pairs, 4111 spans", x, e, nil, api.ErrLimit)
	x, e = span.Add(row(0, 1, 0, 4096), row(0, 1, 0, 4096))
	expect(t, "the tidy lists count", x, e, spans(0, 8190), api.OK)
	x, e = span.Add(nil, row(0, 2, 0, 4096))
	expect(t, "no pairs", x, e, nil, api.OK)
	x, e = span.Add(row(0, 2, 0, 64), row(0, 128, 0, 64))
	expect(t, "4096 spans", x, e, row(0, 2, 0, 4096), api.OK)
	x, e = span.Add(row(0, 2, 0, 17), row(0, 34, 0, 241))
	expect(t, "4097 spans", x, e, nil, api.ErrLimit)
	x, e = span.Add(row(farthest-1000, 2, 0, 256), row(farthest-1000, 2, 0, 257))
	expect(t, "too many pairs, and sums out of range", x, e, nil, api.ErrLimit)
	x, e = span.Add(row(0, 2, 0, 17), slices.Concat(row(0, 34, 0, 240), spans(farthest, farthest)))
	expect(t, "sums out of range, and too many", x, e, nil, api.ErrSpan)
}

func TestShift(t *testing.T) {
	for _, x := range []struct {
		what string
		a    []api.Span
		by   int
		want []api.Span
		e    api.Errno
	}{
		{"a list that is not tidy", spans(1, 2, 0, 0), -3, spans(-3, -1), api.OK},
		{"by nothing", spans(4, 5, 1, 2), 0, spans(1, 2, 4, 5), api.OK},
		{"several spans", spans(1, 2, 4, 4), 10, spans(11, 12, 14, 14), api.OK},
		{"the example", spans(0, 1), farthest, nil, api.ErrSpan},
		{"up to the end", spans(-1, 0), farthest, spans(farthest-1, farthest), api.OK},
		{"down to the end", spans(0, 1), -farthest, spans(-farthest, 1-farthest), api.OK},
		{"beyond the lower end", spans(-1, 0), -farthest, nil, api.ErrSpan},
		{"only the last span beyond", spans(0, 0, 5, 6), farthest - 5, nil, api.ErrSpan},
		{"only the first span beyond", spans(-6, -5, 0, 0), 5 - farthest, nil, api.ErrSpan},
		{"from end to end", spans(-farthest, -farthest), 2 * farthest, spans(farthest, farthest), api.OK},
		{"from the other end", spans(farthest, farthest), -2 * farthest, spans(-farthest, -farthest), api.OK},
		{"more than from end to end", spans(-farthest, -farthest), 2*farthest + 1, nil, api.ErrSpan},
		{"nothing by the greatest number", nil, math.MaxInt, nil, api.OK},
		{"nothing by the least number", nil, math.MinInt, nil, api.OK},
		{"by the greatest number", spans(farthest, farthest), math.MaxInt, nil, api.ErrSpan},
		{"by the least number", spans(-farthest, -farthest), math.MinInt, nil, api.ErrSpan},
		{"the error of the list", spans(1, 0), math.MaxInt, nil, api.ErrSpan},
		{"a long list", row(0, 0, 0, 4097), math.MaxInt, nil, api.ErrLimit},
		{"as many as possible", row(0, 2, 0, 4096), 7, row(7, 2, 0, 4096), api.OK},
	} {
		y, e := span.Shift(x.a, x.by)
		expect(t, x.what, y, e, x.want, x.e)
	}
}

// P1.3

func TestDrift(t *testing.T) {
	for i, x := range []struct {
		time, parts, want int
		e                 api.Errno
	}{
		{50000, 20, 1, api.OK}, {50001, 20, 2, api.OK}, {-50001, 20, 2, api.OK}, {-50000, 20, 1, api.OK}, {49999, 20, 1, api.OK},
		{0, 0, 0, api.OK}, {0, 100000, 0, api.OK}, {12345, 0, 0, api.OK}, {-12345, 0, 0, api.OK}, {1, 1, 1, api.OK}, {-1, 1, 1, api.OK},
		{1000000, 1, 1, api.OK}, {1000001, 1, 2, api.OK}, {999999, 100000, 100000, api.OK}, {10, 100000, 1, api.OK}, {11, 100000, 2, api.OK},
		{1 << 41, 100000, 219902325556, api.OK}, {-1 << 41, 100000, 219902325556, api.OK}, {1 << 41, 1, 2199024, api.OK},
		{1<<41 + 1, 1, 0, api.ErrArg}, {-1<<41 - 1, 1, 0, api.ErrArg}, {1<<41 + 1, 0, 0, api.ErrArg},
		{math.MaxInt, 1, 0, api.ErrArg}, {math.MinInt, 1, 0, api.ErrArg},
		{1, -1, 0, api.ErrArg}, {1, 100001, 0, api.ErrArg}, {0, -1, 0, api.ErrArg},
		{1, math.MaxInt, 0, api.ErrArg}, {1, math.MinInt, 0, api.ErrArg},
	} {
		if n, e := span.Drift(x.time, x.parts); n != x.want || e != x.e {
			t.Errorf("%d: got %d, %d; want %d, %d", i, n, e, x.want, x.e)
		}
	}
}

func TestDriftAgainstLongNumbers(t *testing.T) {
	r := rand.New(rand.NewSource(2))
	for range 5000 {
		time, parts := int(r.Int63n(1<<uint(1+r.Intn(41))))*(1-2*r.Intn(2)), r.Intn(100001)
		product := new(big.Int).Mul(big.NewInt(int64(time)), big.NewInt(int64(parts)))
		want, rest := new(big.Int).DivMod(product.Abs(product), big.NewInt(1000000), new(big.Int))
		if rest.Sign() > 0 {
			want.Add(want, big.NewInt(1))
		}
		if n, e := span.Drift(time, parts); e != api.OK || int64(n) != want.Int64() {
			t.Errorf("Drift(%d, %d): got %d, %d; want %v", time, parts, n, e, want)
		}
	}
}

// P1.4

func TestResultsDependOnTimesOnly(t *testing.T) {
	r := rand.New(rand.NewSource(3))
	for range 2000 {
		a, b := randomList(r, 8), randomList(r, 8)
		c, d := otherList(r, a), otherList(r, b)
		for name, f := range map[string]operation{"Set": set, "Union": span.Union, "Meet": span.Meet, "Add": span.Add} {
			want, wantE := f(a, b)
			got, e := f(c, d)
			expect(t, name, got, e, want, wantE)
		}
	}
}

func TestAddDistributesOverUnions(t *testing.T) {
	r := rand.New(rand.NewSource(4))
	for range 2000 {
		a, b, c := randomList(r, 8), randomList(r, 8), randomList(r, 8)
		both, _ := span.Union(a, b)
		want, e := span.Add(both, c)
		x, _ := span.Add(a, c)
		y, _ := span.Add(b, c)
		got, f := span.Union(x, y)
		expect(t, "the sums of a union", got, f, want, e)
	}
}

func TestShiftsAreSumsAndInverse(t *testing.T) {
	r := rand.New(rand.NewSource(5))
	for range 2000 {
		a, by := randomList(r, 8), int(r.Int63n(farthest))-farthest/2
		shifted, e := span.Shift(a, by)
		sum, f := span.Add(a, spans(by, by))
		expect(t, "a shift", shifted, e, sum, f)
		back, e := span.Shift(shifted, -by)
		want, f := span.Set(a)
		expect(t, "a shift and its inverse", back, e, want, f)
	}
}

func TestDriftOfSums(t *testing.T) {
	r := rand.New(rand.NewSource(6))
	for range 5000 {
		a, b, parts := int(r.Int63n(1<<41))-1<<40, r.Intn(1<<uint(1+r.Intn(40)))-1<<39, r.Intn(100001)
		x, e := span.Drift(a, parts)
		y, f := span.Drift(b, parts)
		sum, g := span.Drift(a+b, parts)
		if e != api.OK || f != api.OK || g != api.OK || sum > x+y {
			t.Errorf("Drift(%d + %d, %d): got %d, %d; the drifts are %d, %d and %d, %d", a, b, parts, sum, g, x, e, y, f)
		}
	}
}

// The rules R2 and R3

func TestArgumentsAndResultsKeepTheirValues(t *testing.T) {
	room := spans(5, 6, 1, 2, 3, 3, 90, 90, 91, 91, 92, 92, 93, 93)
	a, b := room[:3], spans(9, 9, 2, 4)
	kept, keptB := slices.Clone(room), slices.Clone(b)
	for name, f := range map[string]operation{
		"Set": set, "Shift": func(a, _ []api.Span) ([]api.Span, api.Errno) { return span.Shift(a, 8) },
		"Union": span.Union, "Meet": span.Meet, "Add": span.Add,
	} {
		first, e := f(a, b)
		want := slices.Clone(first)
		if _, g := f(b, a); e != api.OK || g != api.OK {
			t.Errorf("%s: got %d, %d", name, e, g)
		}
		if _, g := f(first, b); g != api.OK {
			t.Errorf("%s of its result: got %d", name, g)
		}
		if !slices.Equal(first, want) {
			t.Errorf("%s changes what it has returned", name)
		}
		if !slices.Equal(room, kept) || !slices.Equal(b, keptB) {
			t.Fatalf("%s changes its arguments", name)
		}
	}
	tidy := spans(1, 2, 5, 5)
	if _, e := span.Shift(tidy, 3); e != api.OK || !slices.Equal(tidy, spans(1, 2, 5, 5)) {
		t.Errorf("Shift of a tidy list changes its argument: %v, %d", tidy, e)
	}
}

func TestEmptyListsAreEqual(t *testing.T) {
	for name, f := range map[string]operation{"Set": set, "Shift": shiftBy0, "Union": span.Union, "Meet": span.Meet, "Add": span.Add} {
		for _, a := range [][]api.Span{nil, {}} {
			for _, b := range [][]api.Span{nil, {}} {
				x, e := f(a, b)
				expect(t, name, x, e, nil, api.OK)
			}
		}
	}
}
