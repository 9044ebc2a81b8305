package syntax_test

import (
	"math/rand"
	"strconv"
	"strings"

	"stopwatch/api"
)

// author invents a course, condition or tie rule, and writes the words of a text of it.
type author struct {
	*rand.Rand
	words []string
	names map[string][]string // names of mats, distances and categories, in order
}

func newAuthor(seed int64) *author {
	return &author{Rand: rand.New(rand.NewSource(seed)), names: map[string][]string{}}
}

func (a *author) write(words ...string) { a.words = append(a.words, words...) }

// lower returns a number below n, mostly a small one.
func (a *author) lower(n int) int { return a.Intn(1 + a.Intn(n)) }

func (a *author) newName(class string) string {
	name := []string{"a", "b", "c", "Turn", "line_2", "courses", "x9", "Course", "LAPS", "end_"}[a.Intn(10)]
	a.names[class] = append(a.names[class], name)
	a.write(name)
	return name
}

// oldName writes a name that was described, and returns the index of the first one.
func (a *author) oldName(class string) int {
	l := a.names[class]
	name := l[a.Intn(len(l))]
	a.write(name)
	for i, x := range l {
		if x == name {
			return i
		}
	}
	return -1
}

func (a *author) number() int {
	n := []int{0, 1, 2, a.Intn(100), a.Intn(1 << 50), 1<<50 - 1, 1 << 50}[a.Intn(7)]
	a.write(strconv.Itoa(n))
	return n
}

func (a *author) time() int {
	x := []struct {
		text string
		t    int
	}{{"0:00", 0}, {"0.0", 0}, {"0.000001", 1}, {"2.5", 2500000}, {"0:59.999999", 59999999}, {"62:03.50", 3723500000}, {"1:02:03.5", 3723500000}, {"305:25:11.627776", 1 << 40}}[a.Intn(8)]
	a.write(x.text)
	return x.t
}

// setting writes a word, a value and a semicolon.
func (a *author) setting(word string, value func() int) int {
	a.write(word)
	n := value()
	a.write(";")
	return n
}

func (a *author) course() (c api.Course) {
	a.write("course")
	c.Name = a.newName("course")
	a.write("{", "mats", "{")
	for range 1 + a.Intn(4) {
		kind := 1 + a.Intn(3)
		a.write([]string{"", "start", "pass", "end"}[kind])
		c.Mats = append(c.Mats, api.Mat{Name: a.newName("mat"), Kind: kind})
		a.write(";")
	}
	a.write("}")
	for range a.lower(4) {
		c.Legs = append(c.Legs, a.leg())
	}
	for range a.lower(4) {
		c.Distances = append(c.Distances, a.distance())
	}
	for range a.lower(3) {
		a.write("wave")
		name := a.newName("wave")
		c.Waves = append(c.Waves, api.Wave{Name: name, Gun: a.time()})
		a.write(";")
	}
	for range a.lower(4) {
		c.Offences = append(c.Offences, a.offence())
	}
	for range a.lower(3) {
		a.write("category")
		name, from := a.newName("category"), a.number()
		a.write("to")
		c.Categories = append(c.Categories, api.Category{Name: name, From: from, To: a.number()})
		a.write(";")
	}
	for range a.lower(4) * min(1, len(c.Distances)) {
		c.Prizes = append(c.Prizes, a.prize())
	}
	a.write("ties", "{")
	c.Ties = a.steps(3)
	a.write("}", "faults", "{")
	c.Faults.Misses, c.Faults.Strays = a.setting("misses", a.number), a.setting("strays", a.number)
	c.Faults.Window, c.Faults.Residual = a.setting("window", a.time), a.setting("residual", a.time)
	c.Faults.Drift = a.setting("drift", a.number)
	a.write("}", "protest", "fee")
	c.Fee, c.Deadline = a.number(), a.setting("deadline", a.time)
	a.write("}")
	return c
}

func (a *author) leg() (l api.Leg) {
	a.write("leg")
	l.From = a.oldName("mat")
	a.write("to")
	l.To, l.Min = a.oldName("mat"), a.time()
	a.write("..")
	l.Max = a.time()
	a.write(";")
	return l
}

func (a *author) distance() (d api.Distance) {
	a.write("distance")
	d.Name, d.Timing, d.Extra = a.newName("distance"), 1+a.Intn(3), -1
	a.write([]string{"", "gun", "chip", "slot"}[d.Timing], "{")
	d.Route = a.parts(3)
	for range a.lower(3) {
		a.write("cutoff")
		mat := a.oldName("mat")
		a.write("lap")
		d.Cutoffs = append(d.Cutoffs, api.Cutoff{Mat: mat, Lap: a.number(), Limit: a.time()})
		a.write(";")
	}
	if a.Intn(2) == 0 {
		a.write("extra")
		d.Extra = a.oldName("mat")
		a.write(";")
	}
	a.write("}")
	return d
}

func (a *author) parts(depth int) (l []api.Part) {
	for range 1 + a.lower(4) {
		if depth == 0 || a.Intn(3) > 0 {
			l = append(l, api.Part{Mat: a.oldName("mat")})
			a.write(";")
			continue
		}
		a.write("laps")
		laps := a.number()
		a.write("{")
		l = append(l, api.Part{Laps: laps, Parts: a.parts(depth - 1)})
		a.write("}")
	}
	return l
}

func (a *author) offence() (o api.Offence) {
	a.write("offence")
	o.Name = a.newName("offence")
	switch a.Intn(3) {
	case 0:
		a.write("laps")
		o.Laps = a.number()
	case 1:
		a.write("out")
		o.Out = true
	default:
		o.Time = a.time()
	}
	a.write(";")
	return o
}

func (a *author) prize() (z api.Prize) {
	a.write("prize")
	z.Distance, z.Category = a.oldName("distance"), -1
	if len(a.names["category"]) == 0 || a.Intn(2) == 0 {
		a.write("all")
	} else {
		z.Category = a.oldName("category")
	}
	z.Rank, z.Amount = a.number(), a.number()
	a.write(";")
	return z
}

func (a *author) steps(depth int) (l []api.Step) {
	for range 1 + a.lower(4) {
		if depth == 0 || a.Intn(3) > 0 {
			by := 1 + a.Intn(5)
			a.write([]string{"", "older", "younger", "wave", "bib", "draw"}[by], ";")
			l = append(l, api.Step{Kind: api.ByS, By: by})
			continue
		}
		s := api.Step{Kind: api.IfS}
		a.write("if")
		s.Cond = a.condition(3)
		a.write("{")
		s.Then = a.steps(depth - 1)
		a.write("}")
		if a.Intn(2) == 0 {
			a.write("else", "{")
			s.Else = a.steps(depth - 1)
			a.write("}")
		}
		l = append(l, s)
	}
	return l
}

// several returns one condition or several ones with a word between them.
func (a *author) several(kind int, word string, one func() api.Cond) api.Cond {
	l := []api.Cond{one()}
	for range a.lower(4) {
		a.write(word)
		l = append(l, one())
	}
	if len(l) == 1 {
		return l[0]
	}
	return api.Cond{Kind: kind, Parts: l}
}

func (a *author) condition(depth int) api.Cond {
	return a.several(api.OrC, "or", func() api.Cond {
		return a.several(api.AndC, "and", func() api.Cond { return a.unit(depth) })
	})
}

func (a *author) unit(depth int) (c api.Cond) {
	if depth > 0 {
		switch a.Intn(4) {
		case 0:
			a.write("not")
			return not(a.unit(depth - 1))
		case 1:
			a.write("(")
			c = a.condition(depth - 1)
			a.write(")")
			return c
		}
	}
	v, sign := 1+a.Intn(3), []string{">=", ">", "<=", "<", "="}[a.Intn(5)]
	a.write([]string{"", "distance", "field", "short"}[v], sign)
	n := a.number()
	least := api.Cond{Kind: api.AtLeastC, Var: v, N: n}
	more := api.Cond{Kind: api.AtLeastC, Var: v, N: n + 1}
	return map[string]api.Cond{
		">=": least,
		">":  more,
		"<":  not(least),
		"<=": not(more),
		"=":  {Kind: api.AndC, Parts: []api.Cond{least, not(more)}},
	}[sign]
}

func not(c api.Cond) api.Cond { return api.Cond{Kind: api.NotC, Parts: []api.Cond{c}} }

// spaced returns the words with white space and comments between them, and nothing where nothing is needed.
func (a *author) spaced(words []string) string {
	var b strings.Builder
	for i, w := range words {
		free := i == 0 || strings.Contains("{}();", w) || strings.Contains("{}();", words[i-1])
		blank := []string{" ", "\n", "\t", "\r\n", " # a comment; \" % course\n", "#\n", "  \n  ", ""}[a.Intn(8)]
		if blank == "" && !free {
			blank = " "
		}
		b.WriteString(blank + w)
	}
	return b.String() + []string{"", " ", "\n", "# the end"}[a.Intn(4)]
}
