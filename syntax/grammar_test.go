package syntax_test

import (
	"regexp"
	"strconv"
	"strings"

	"stopwatch/api"
	"stopwatch/lexis"
)

// The grammar of the chapter, read as it is, and independently of package syntax. Beyond the chapter's notation,
// +c is a NAME that describes something of the class c, and ?c one that stands for something of this class;
// >c is before a text that the following encloses in something of the class c, until <c.
const chapterGrammar = `
course = "course" NAME "{" mats {leg} {distance} {wave} {offence} {category} {prize} ties faults protest "}"
mats = "mats" "{" {("start" | "pass" | "end") +mat ";"} "}"
leg = "leg" ?mat "to" ?mat TIME ".." TIME ";"
distance = "distance" +distance ("gun" | "chip" | "slot") "{" part {part} {cutoff} [extra] "}"
part = ?mat ";" | >laps "laps" INT "{" part {part} "}" <laps
cutoff = "cutoff" ?mat "lap" INT TIME ";"
extra = "extra" ?mat ";"
wave = "wave" NAME TIME ";"
offence = "offence" NAME (TIME | "laps" INT | "out") ";"
category = "category" +category INT "to" INT ";"
prize = "prize" ?distance ("all" | ?category) INT INT ";"
ties = "ties" "{" steps "}"
steps = step {step}
step = ("older" | "younger" | "wave" | "bib" | "draw") ";" | >if "if" condition "{" steps "}" ["else" "{" steps "}"] <if
condition = conj {"or" conj}
conj = unit {"and" unit}
unit = >unit "not" unit <unit | >unit "(" condition ")" <unit | ("distance" | "field" | "short") (">=" | ">" | "<=" | "<" | "=") INT
faults = "faults" "{" "misses" INT ";" "strays" INT ";" "window" TIME ";" "residual" TIME ";" "drift" INT ";" "}"
protest = "protest" "fee" INT "deadline" TIME ";"
`

// form is an element of the grammar.
type form struct {
	kind  string // text, rule, all (parts), one (of parts), any (number of a part), NAME, INT, TIME, or +, ?, >, <
	text  string
	parts []*form
}

// grammarReader reads the words of a rule.
type grammarReader struct{ words []string }

func (g *grammarReader) next() string {
	if len(g.words) == 0 {
		return ""
	}
	return g.words[0]
}

func (g *grammarReader) take() string {
	w := g.words[0]
	g.words = g.words[1:]
	return w
}

func (g *grammarReader) choice() *form {
	f := &form{kind: "one", parts: []*form{g.sequence()}}
	for g.next() == "|" {
		g.take()
		f.parts = append(f.parts, g.sequence())
	}
	return f
}

func (g *grammarReader) sequence() *form {
	f := &form{kind: "all"}
	for w := g.next(); w != "" && !strings.Contains("|)}]", w); w = g.next() {
		f.parts = append(f.parts, g.element())
	}
	return f
}

func (g *grammarReader) element() *form {
	w := g.take()
	switch w {
	case "(", "{", "[":
		inside := g.choice()
		g.take()
		switch w {
		case "{":
			return &form{kind: "any", parts: []*form{inside}}
		case "[":
			return &form{kind: "one", parts: []*form{inside, {kind: "all"}}}
		}
		return inside
	case "NAME", "INT", "TIME":
		return &form{kind: w}
	}
	switch w[0] {
	case '"':
		return &form{kind: "text", text: strings.Trim(w, `"`)}
	case '+', '?', '>', '<':
		return &form{kind: w[:1], text: w[1:]}
	}
	return &form{kind: "rule", text: w}
}

var grammarWord = regexp.MustCompile(`"[^"]*"|[+?<>]?[A-Za-z]+|[(){}\[\]|]`)

// chapterRules returns the rules of the grammar by their names.
func chapterRules() map[string]*form {
	rules := map[string]*form{}
	for _, line := range strings.Split(strings.TrimSpace(chapterGrammar), "\n") {
		name, text, _ := strings.Cut(line, " = ")
		rules[name] = (&grammarReader{grammarWord.FindAllString(text, -1)}).choice()
	}
	return rules
}

// stack is what may follow, its first element on top, and how deep it is in each class.
type stack struct {
	top   *form
	below *stack
}

// oracle says which token ends the reading, by keeping everything that may follow.
type oracle struct {
	rules     map[string]*form
	described map[string]bool
}

// expand calls yield with all stacks that begin with a token, or are empty.
func (o *oracle) expand(s *stack, yield func(s *stack)) {
	if s == nil {
		yield(nil)
		return
	}
	switch f := s.top; f.kind {
	case "rule":
		o.expand(&stack{o.rules[f.text], s.below}, yield)
	case "all":
		below := s.below
		for i := len(f.parts) - 1; i >= 0; i-- {
			below = &stack{f.parts[i], below}
		}
		o.expand(below, yield)
	case "one":
		for _, x := range f.parts {
			o.expand(&stack{x, s.below}, yield)
		}
	case "any":
		o.expand(s.below, yield)
		o.expand(&stack{f.parts[0], s}, yield)
	case "<":
		o.expand(s.below, yield)
	default:
		yield(s)
	}
}

func isName(t api.Token) bool { return t.Kind == api.TokWord && !lexis.Keyword(t.Text) }

// admits tells whether a token is what a form asks for, and what is wrong with it nevertheless.
func (o *oracle) admits(f *form, t api.Token) (ok bool, e api.Errno) {
	switch f.kind {
	case "text":
		return (t.Kind == api.TokWord || t.Kind == api.TokSign) && t.Text == f.text, api.OK
	case "INT":
		n, _ := strconv.Atoi(t.Text)
		return t.Kind == api.TokInt && 0 <= n && n <= 1<<50, api.OK
	case "TIME":
		return t.Kind == api.TokTime && t.Text[0] != '-', api.OK
	case "?":
		if isName(t) && !o.described[f.text+" "+t.Text] {
			return true, api.ErrName
		}
	}
	return isName(t), api.OK
}

// after returns the stacks after a token, and the error that it is.
func (o *oracle) after(live []*stack, t api.Token) (next []*stack, e api.Errno) {
	wrong := api.ErrSyntax
	try := func(s *stack) {
		depth := 0
		if s != nil && s.top.kind == ">" {
			for x := s; x != nil; x = x.below {
				if x.top.kind == "<" && x.top.text == s.top.text {
					depth++
				}
			}
			s = s.below
		}
		if s == nil {
			if t.Kind == api.TokEnd {
				wrong, next = api.OK, append(next, nil)
			}
			return
		}
		ok, e := o.admits(s.top, t)
		if ok && depth > 16 { // it is itself among the enclosing ones
			e = api.ErrLimit
		}
		if ok {
			wrong, next = e, append(next, s.below)
		}
		if ok && s.top.kind == "+" {
			o.described[s.top.text+" "+t.Text] = true
		}
	}
	for _, s := range live {
		o.expand(s, try)
	}
	return next, wrong
}

// verdict returns the index of the token that ends the reading of a rule, and its error.
func verdict(rules map[string]*form, rule string, l []api.Token) (i int, e api.Errno) {
	o := &oracle{rules: rules, described: map[string]bool{}}
	live := []*stack{{top: &form{kind: "rule", text: rule}}}
	for i, t := range l {
		if live, e = o.after(live, t); e != api.OK {
			return i, e
		}
	}
	return 0, api.OK
}
