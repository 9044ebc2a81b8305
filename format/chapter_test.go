package format_test

import (
	"fmt"
	"strings"

	"stopwatch/api"
	"stopwatch/lexis"
)

// What the chapter says of the texts, word by word and independently of package format.

func chapterTime(t int) string {
	s, e := lexis.TimeText(t)
	if e != api.OK {
		panic(t)
	}
	return s
}

// chapterMeant returns what a condition counts as: as its part, if it is an AndC or OrC with one part.
func chapterMeant(c api.Cond) api.Cond {
	if (c.Kind == api.AndC || c.Kind == api.OrC) && len(c.Parts) == 1 {
		return chapterMeant(c.Parts[0])
	}
	return c
}

// chapterIs tells whether a condition is of one of these kinds, with at least two Parts.
func chapterIs(c api.Cond, kinds ...int) bool {
	c = chapterMeant(c)
	for _, k := range kinds {
		if c.Kind == k && len(c.Parts) >= 2 {
			return true
		}
	}
	return false
}

func chapterCond(c api.Cond) string {
	c = chapterMeant(c)
	inside := func(part api.Cond, kinds ...int) string {
		if chapterIs(part, kinds...) {
			return "(" + chapterCond(part) + ")"
		}
		return chapterCond(part)
	}
	var parts []string
	for _, part := range c.Parts {
		if c.Kind == api.OrC {
			parts = append(parts, inside(part, api.OrC))
		} else {
			parts = append(parts, inside(part, api.AndC, api.OrC))
		}
	}
	switch c.Kind {
	case api.AtLeastC:
		return fmt.Sprintf("%s >= %d", map[int]string{1: "distance", 2: "field", 3: "short"}[c.Var], c.N)
	case api.AndC:
		return strings.Join(parts, " and ")
	case api.OrC:
		return strings.Join(parts, " or ")
	}
	return "not " + parts[0]
}

func chapterSteps(l []api.Step) string {
	var texts []string
	for _, s := range l {
		text := map[int]string{1: "older;", 2: "younger;", 3: "wave;", 4: "bib;", 5: "draw;"}[s.By]
		if s.Kind == api.IfS {
			text = fmt.Sprintf("if %s { %s }", chapterCond(s.Cond), chapterSteps(s.Then))
			if len(s.Else) > 0 {
				text += fmt.Sprintf(" else { %s }", chapterSteps(s.Else))
			}
		}
		texts = append(texts, text)
	}
	return strings.Join(texts, " ")
}

func chapterParts(c api.Course, l []api.Part) string {
	var texts []string
	for _, p := range l {
		if p.Laps == 0 {
			texts = append(texts, c.Mats[p.Mat].Name+";")
		} else {
			texts = append(texts, fmt.Sprintf("laps %d { %s }", p.Laps, chapterParts(c, p.Parts)))
		}
	}
	return strings.Join(texts, " ")
}

func chapterDistance(c api.Course, d api.Distance) string {
	timing := map[int]string{1: "gun", 2: "chip", 3: "slot"}[d.Timing]
	text := fmt.Sprintf("distance %s %s { %s", d.Name, timing, chapterParts(c, d.Route))
	for _, x := range d.Cutoffs {
		text += fmt.Sprintf(" cutoff %s lap %d %s;", c.Mats[x.Mat].Name, x.Lap, chapterTime(x.Limit))
	}
	if d.Extra != -1 {
		text += fmt.Sprintf(" extra %s;", c.Mats[d.Extra].Name)
	}
	return text + " }"
}

func chapterOffence(o api.Offence) string {
	switch {
	case o.Out:
		return fmt.Sprintf("offence %s out;", o.Name)
	case o.Laps != 0:
		return fmt.Sprintf("offence %s laps %d;", o.Name, o.Laps)
	}
	return fmt.Sprintf("offence %s %s;", o.Name, chapterTime(o.Time))
}

func chapterPrize(c api.Course, p api.Prize) string {
	category := "all"
	if p.Category != -1 {
		category = c.Categories[p.Category].Name
	}
	return fmt.Sprintf("prize %s %s %d %d;", c.Distances[p.Distance].Name, category, p.Rank, p.Amount)
}

// chapterLines returns the lines between the first and the last one, without the two spaces.
func chapterLines(c api.Course) (l []string) {
	mats := ""
	for _, m := range c.Mats {
		mats += fmt.Sprintf(" %s %s;", map[int]string{1: "start", 2: "pass", 3: "end"}[m.Kind], m.Name)
	}
	l = append(l, "mats {"+mats+" }")
	for _, x := range c.Legs {
		l = append(l, fmt.Sprintf("leg %s to %s %s .. %s;", c.Mats[x.From].Name, c.Mats[x.To].Name, chapterTime(x.Min), chapterTime(x.Max)))
	}
	for _, x := range c.Distances {
		l = append(l, chapterDistance(c, x))
	}
	for _, x := range c.Waves {
		l = append(l, fmt.Sprintf("wave %s %s;", x.Name, chapterTime(x.Gun)))
	}
	for _, x := range c.Offences {
		l = append(l, chapterOffence(x))
	}
	for _, x := range c.Categories {
		l = append(l, fmt.Sprintf("category %s %d to %d;", x.Name, x.From, x.To))
	}
	for _, x := range c.Prizes {
		l = append(l, chapterPrize(c, x))
	}
	f := c.Faults
	return append(l,
		fmt.Sprintf("ties { %s }", chapterSteps(c.Ties)),
		fmt.Sprintf("faults { misses %d; strays %d; window %s; residual %s; drift %d; }", f.Misses, f.Strays, chapterTime(f.Window), chapterTime(f.Residual), f.Drift),
		fmt.Sprintf("protest fee %d deadline %s;", c.Fee, chapterTime(c.Deadline)),
	)
}

// chapterCourse is for courses that package typing accepts.
func chapterCourse(c api.Course) string {
	return fmt.Sprintf("course %s {\n  %s\n}\n", c.Name, strings.Join(chapterLines(c), "\n  "))
}

// Without AndC and OrC with one part.

func simpleCond(c api.Cond) api.Cond {
	c = chapterMeant(c)
	var parts []api.Cond
	for _, p := range c.Parts {
		parts = append(parts, simpleCond(p))
	}
	c.Parts = parts
	return c
}

func simpleSteps(l []api.Step) (simple []api.Step) {
	for _, s := range l {
		s.Cond, s.Then, s.Else = simpleCond(s.Cond), simpleSteps(s.Then), simpleSteps(s.Else)
		simple = append(simple, s)
	}
	return simple
}

func simpleCourse(c api.Course) api.Course {
	c.Ties = simpleSteps(c.Ties)
	return c
}
