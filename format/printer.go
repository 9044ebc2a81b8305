package format

import (
	"bytes"
	"strconv"

	"stopwatch/api"
	"stopwatch/lexis"
)

const (
	noMat     = -1 // in the place of the mat whose lap is run again
	everybody = -1 // in the place of the category of a prize
)

// Words, each at the number that it stands for.
var (
	matKinds  = [...]string{api.StartM: "start", api.PassM: "pass", api.EndM: "end"}
	timings   = [...]string{api.GunT: "gun", api.ChipT: "chip", api.SlotT: "slot"}
	criteria  = [...]string{api.OlderB: "older", api.YoungerB: "younger", api.WaveB: "wave", api.BibB: "bib", api.DrawB: "draw"}
	variables = [...]string{api.DistanceV: "distance", api.FieldV: "field", api.ShortV: "short"}
)

// printer collects the text of what is valid.
type printer struct {
	bytes.Buffer
	course api.Course // which has the names that indices stand for
}

// put writes texts one after the other.
func (p *printer) put(texts ...string) {
	for _, s := range texts {
		p.WriteString(s)
	}
}

// each writes all elements, with a text before each of them and another one after it.
func each[T any](p *printer, l []T, before string, write func(p *printer, x T), after string) {
	for _, x := range l {
		p.put(before)
		write(p, x)
		p.put(after)
	}
}

// joined writes all elements, with a text between each two of them.
func joined[T any](p *printer, l []T, write func(p *printer, x T), between string) {
	before := ""
	for _, x := range l {
		p.put(before)
		write(p, x)
		before = between
	}
}

// number is N(n) of the chapter.
func number(n int) string { return strconv.Itoa(n) }

// duration is T(t) of the chapter. No time of a valid course is too long for it.
func duration(t int) string {
	s, _ := lexis.TimeText(t)
	return s
}

// mat returns the name of the mat with an index.
func (p *printer) mat(i int) string { return p.course.Mats[i].Name }

// lines writes the course.
func (p *printer) lines() {
	c := p.course
	p.put("course ", c.Name, " {\n")
	p.put("  mats {")
	each(p, c.Mats, " ", (*printer).describedMat, ";")
	p.put(" }\n")
	each(p, c.Legs, "  leg ", (*printer).leg, ";\n")
	each(p, c.Distances, "  distance ", (*printer).distance, " }\n")
	each(p, c.Waves, "  wave ", (*printer).wave, ";\n")
	each(p, c.Offences, "  offence ", (*printer).offence, ";\n")
	each(p, c.Categories, "  category ", (*printer).category, ";\n")
	each(p, c.Prizes, "  prize ", (*printer).prize, ";\n")
	p.put("  ties { ")
	p.steps(c.Ties)
	p.put(" }\n")
	p.faults(c.Faults)
	p.put("  protest fee ", number(c.Fee), " deadline ", duration(c.Deadline), ";\n")
	p.put("}\n")
}

func (p *printer) describedMat(m api.Mat) {
	p.put(matKinds[m.Kind], " ", m.Name)
}

func (p *printer) leg(l api.Leg) {
	p.put(p.mat(l.From), " to ", p.mat(l.To), " ", duration(l.Min), " .. ", duration(l.Max))
}

func (p *printer) distance(d api.Distance) {
	p.put(d.Name, " ", timings[d.Timing], " { ")
	p.parts(d.Route)
	each(p, d.Cutoffs, " cutoff ", (*printer).cutoff, ";")
	if d.Extra != noMat {
		p.put(" extra ", p.mat(d.Extra), ";")
	}
}

func (p *printer) parts(l []api.Part) {
	joined(p, l, (*printer).part, " ")
}

func (p *printer) part(x api.Part) {
	if x.Laps == 0 {
		p.put(p.mat(x.Mat), ";")
		return
	}
	p.put("laps ", number(x.Laps), " { ")
	p.parts(x.Parts)
	p.put(" }")
}

func (p *printer) cutoff(c api.Cutoff) {
	p.put(p.mat(c.Mat), " lap ", number(c.Lap), " ", duration(c.Limit))
}

func (p *printer) wave(w api.Wave) {
	p.put(w.Name, " ", duration(w.Gun))
}

func (p *printer) offence(o api.Offence) {
	p.put(o.Name, " ")
	switch {
	case o.Out:
		p.put("out")
	case o.Laps != 0:
		p.put("laps ", number(o.Laps))
	default:
		p.put(duration(o.Time))
	}
}

func (p *printer) category(g api.Category) {
	p.put(g.Name, " ", number(g.From), " to ", number(g.To))
}

func (p *printer) prize(z api.Prize) {
	category := "all"
	if z.Category != everybody {
		category = p.course.Categories[z.Category].Name
	}
	p.put(p.course.Distances[z.Distance].Name, " ", category, " ", number(z.Rank), " ", number(z.Amount))
}

func (p *printer) faults(f api.Faults) {
	p.put("  faults { misses ", number(f.Misses), "; strays ", number(f.Strays), "; window ", duration(f.Window))
	p.put("; residual ", duration(f.Residual), "; drift ", number(f.Drift), "; }\n")
}

func (p *printer) steps(l []api.Step) {
	joined(p, l, (*printer).step, " ")
}

func (p *printer) step(s api.Step) {
	if s.Kind == api.ByS {
		p.put(criteria[s.By], ";")
		return
	}
	p.put("if ")
	p.condition(s.Cond)
	p.put(" { ")
	p.steps(s.Then)
	p.put(" }")
	if len(s.Else) > 0 {
		p.put(" else { ")
		p.steps(s.Else)
		p.put(" }")
	}
}

// condition writes what chapter 6 calls a condition, conj what it calls a conj, and unit what it calls a unit.
func (p *printer) condition(c api.Cond) {
	c = unwrapped(c)
	switch c.Kind {
	case api.AtLeastC:
		p.put(variables[c.Var], " >= ", number(c.N))
	case api.NotC:
		p.put("not ")
		p.unit(c.Parts[0])
	case api.AndC:
		joined(p, c.Parts, (*printer).unit, " and ")
	case api.OrC:
		joined(p, c.Parts, (*printer).conj, " or ")
	}
}

func (p *printer) conj(c api.Cond) {
	p.enclosed(c, unwrapped(c).Kind == api.OrC)
}

func (p *printer) unit(c api.Cond) {
	kind := unwrapped(c).Kind
	p.enclosed(c, kind == api.OrC || kind == api.AndC)
}

// enclosed writes a condition, in parentheses if it needs them.
func (p *printer) enclosed(c api.Cond, needed bool) {
	if !needed {
		p.condition(c)
		return
	}
	p.put("(")
	p.condition(c)
	p.put(")")
}

// unwrapped returns what a condition counts as: an AndC or OrC with one part counts as this part.
func unwrapped(c api.Cond) api.Cond {
	for c.Kind != api.NotC && len(c.Parts) == 1 {
		c = c.Parts[0]
	}
	return c
}
