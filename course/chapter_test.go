package course_test

import (
	"slices"

	"stopwatch/api"
)

// What the chapter says of the routes and times of valid courses, word by word and independently of package course.

func chapterExpanded(l []api.Part) (route []int) {
	for _, p := range l {
		if p.Laps == 0 {
			route = append(route, p.Mat)
		} else {
			route = append(route, slices.Repeat(chapterExpanded(p.Parts), p.Laps)...)
		}
	}
	return route
}

// chapterLap returns the lap of a position.
func chapterLap(route []int, at int) (lap int) {
	for _, m := range route[:at+1] {
		if m == route[at] {
			lap++
		}
	}
	return lap
}

// chapterLast returns the last position of a mat.
func chapterLast(route []int, mat int) int {
	at := len(route) - 1
	for route[at] != mat {
		at--
	}
	return at
}

func chapterRoute(c api.Course, distance, extra int) ([]int, api.Errno) {
	if distance < 0 || distance > len(c.Distances)-1 {
		return nil, api.ErrCourse
	}
	d := c.Distances[distance]
	if extra < 0 || d.Extra == -1 && extra != 0 {
		return nil, api.ErrCourse
	}
	route := chapterExpanded(d.Route)
	if extra > 256 || len(route)+extra > 256 {
		return nil, api.ErrLimit
	}
	for range extra {
		at := chapterLast(route, d.Extra)
		route = slices.Concat(route[:at+1], []int{d.Extra}, route[at+1:])
	}
	return route, api.OK
}

func chapterPosition(c api.Course, distance, extra, mat, lap int) (int, api.Errno) {
	route, e := chapterRoute(c, distance, extra)
	if e != api.OK {
		return 0, e
	}
	for i := range route {
		if route[i] == mat && chapterLap(route, i) == lap {
			return i, api.OK
		}
	}
	return 0, api.ErrCourse
}

// chapterLegs returns the legs between neighbouring positions.
func chapterLegs(c api.Course, route []int) (l []api.Leg) {
	for i := 1; i < len(route); i++ {
		l = append(l, c.Legs[slices.IndexFunc(c.Legs, func(x api.Leg) bool { return x.From == route[i-1] && x.To == route[i] })])
	}
	return l
}

func chapterBetween(c api.Course, distance, extra, from, to int) (api.Span, api.Errno) {
	route, e := chapterRoute(c, distance, extra)
	if e != api.OK {
		return api.Span{}, e
	}
	if !(0 <= from && from <= to && to < len(route)) {
		return api.Span{}, api.ErrCourse
	}
	least, greatest := 0, 0
	for _, l := range chapterLegs(c, route)[from:to] {
		least += l.Min
		greatest += l.Max
	}
	return api.Span{Lo: min(least, 1<<41), Hi: min(greatest, 1<<41)}, api.OK
}

// chapterLatest returns the latest times of all positions of a route without penalty laps.
func chapterLatest(c api.Course, distance int, route []int) (times []int) {
	legs := chapterLegs(c, route)
	for i, mat := range route {
		time := 0
		if i > 0 {
			time = min(times[i-1]+legs[i-1].Max, 1<<41)
		}
		for _, k := range c.Distances[distance].Cutoffs {
			if k.Mat == mat && k.Lap == chapterLap(route, i) {
				time = min(time, k.Limit)
			}
		}
		times = append(times, time)
	}
	return times
}

func chapterFinish(c api.Course, distance int) (s api.Span, ok bool, e api.Errno) {
	route, e := chapterRoute(c, distance, 0)
	if e != api.OK {
		return api.Span{}, false, e
	}
	for i, latest := range chapterLatest(c, distance, route) {
		between, _ := chapterBetween(c, distance, 0, 0, i)
		s = api.Span{Lo: between.Lo, Hi: latest}
		if s.Lo > s.Hi {
			return api.Span{}, false, api.OK
		}
	}
	return s, true, api.OK
}

// chapterParts returns the parts of a list of parts.
func chapterParts(l []api.Part) (parts []api.Part) {
	for _, p := range l {
		parts = append(parts, p)
		parts = append(parts, chapterParts(p.Parts)...)
	}
	return parts
}

func chapterUnused(c api.Course) (mats []int) {
	for mat := range c.Mats {
		occurs := func(p api.Part) bool { return p.Laps == 0 && p.Mat == mat }
		if !slices.ContainsFunc(c.Distances, func(d api.Distance) bool { return slices.ContainsFunc(chapterParts(d.Route), occurs) }) {
			mats = append(mats, mat)
		}
	}
	return mats
}
