package syntax_test

import (
	"fmt"
	"slices"
	"strings"
	"testing"

	"stopwatch/api"
	"stopwatch/lexis"
	"stopwatch/syntax"
)

// reader is one of the three functions, whose result is written out: equal results have equal texts, whether lists are nil or empty.
type reader struct {
	rule string // of the chapter's grammar
	read func(src []byte) (result string, at int, e api.Errno)
}

func written[T any](read func(src []byte) (T, int, api.Errno)) func([]byte) (string, int, api.Errno) {
	return func(src []byte) (string, int, api.Errno) {
		x, at, e := read(src)
		return fmt.Sprintf("%+v", x), at, e
	}
}

func readers() []reader {
	return []reader{
		{"course", written(syntax.Course)},
		{"condition", written(syntax.Condition)},
		{"steps", written(syntax.Steps)},
	}
}

// nothing is what a reader returns together with an error.
func nothing(rule string) string {
	switch rule {
	case "course":
		return fmt.Sprintf("%+v", api.Course{})
	case "condition":
		return fmt.Sprintf("%+v", api.Cond{})
	}
	return "[]"
}

func short(s string) string {
	if len(s) > 120 {
		return s[:60] + " .. " + s[len(s)-60:]
	}
	return s
}

// expectError tells whether a text leads to an error at an offset, and to nothing else.
func expectError(t *testing.T, r reader, text string, at int, e api.Errno) {
	t.Helper()
	result, gotAt, got := r.read([]byte(text))
	if got != e || gotAt != at || result != nothing(r.rule) {
		t.Errorf("%s of %q: got %d at %d with %s; want %d at %d", r.rule, short(text), got, gotAt, short(result), e, at)
	}
}

// expectMarked is expectError for a text in which an @ is before the token at which the error is.
func expectMarked(t *testing.T, r reader, marked string, e api.Errno) {
	t.Helper()
	expectError(t, r, strings.Replace(marked, "@", "", 1), strings.Index(marked, "@"), e)
}

func expectResult(t *testing.T, r reader, text, want string) {
	t.Helper()
	src := []byte(text)
	result, at, e := r.read(src)
	if e != api.OK || at != 0 || result != want {
		t.Errorf("%s of %q: got %d at %d, %s; want %s", r.rule, short(text), e, at, result, want)
	}
	if string(src) != text {
		t.Errorf("%s of %q: the text has been changed", r.rule, short(text))
	}
}

func tokensOf(t *testing.T, text string) []api.Token {
	t.Helper()
	l, bad, e := lexis.Tokens([]byte(text))
	if e != api.OK || len(bad) > 0 {
		t.Fatalf("%q: %v, %d", short(text), bad, e)
	}
	return l
}

// expectVerdict tells whether a text without problems leads to the error that the grammar leads to.
func expectVerdict(t *testing.T, rules map[string]*form, r reader, text string) (i int, e api.Errno) {
	t.Helper()
	l := tokensOf(t, text)
	i, e = verdict(rules, r.rule, l)
	if e != api.OK {
		expectError(t, r, text, l[i].At, e)
	} else if _, at, e := r.read([]byte(text)); e != api.OK || at != 0 {
		t.Errorf("%s of %q: got %d at %d", r.rule, short(text), e, at)
	}
	return i, e
}

// vocabulary contains all words and signs of the grammar, all kinds of tokens, and numbers and times at the limits.
func vocabulary() []string {
	keywords := "course mats start pass end leg to distance gun chip slot laps lap cutoff extra wave offence out category prize all ties if else and or not older younger bib draw field short faults misses strays window residual drift protest fee deadline"
	signs := "{ } ( ) [ ] ; , .. = < > <= >="
	others := `turn direct junior nobody Course 0 1 -1 1125899906842624 1125899906842625 999999999999999999 0:00 1:00 -0:01 305:25:11.627776 -2.5 "turn" ";" "{" "older" "" "0" "0:00"`
	return strings.Fields(keywords + " " + signs + " " + others)
}

// words returns the texts of the tokens of a text.
func words(t *testing.T, text string) []string {
	t.Helper()
	var l []string
	for _, x := range tokensOf(t, text) {
		if x.Kind != api.TokEnd {
			l = append(l, x.Text)
		}
	}
	return l
}

// expectEachNext lets each token of the vocabulary follow each beginning of a text.
func expectEachNext(t *testing.T, r reader, text string) {
	t.Helper()
	rules, l := chapterRules(), words(t, text)
	for i := range len(l) + 1 {
		beginning := strings.Join(l[:i], " ")
		if _, e := expectVerdict(t, rules, r, beginning); (e == api.OK) != (i == len(l)) && r.rule == "course" {
			t.Errorf("%q: got %d", short(beginning), e)
		}
		for _, w := range vocabulary() {
			expectVerdict(t, rules, r, beginning+" "+w+" ")
		}
	}
}

// mutated returns words of which few are left out, repeated, exchanged or replaced.
func mutated(a *author, l []string) []string {
	l = slices.Clone(l)
	for range 1 + a.Intn(3) {
		i, k := a.Intn(len(l)), a.Intn(len(l))
		switch a.Intn(5) {
		case 0:
			l = slices.Delete(l, i, i+1)
		case 1:
			l = slices.Insert(l, i, l[k])
		case 2:
			l[i], l[k] = l[k], l[i]
		case 3:
			l[i] = vocabulary()[a.Intn(len(vocabulary()))]
		default:
			l = l[:i+1]
		}
		if len(l) == 0 {
			return []string{"older"}
		}
	}
	return l
}
