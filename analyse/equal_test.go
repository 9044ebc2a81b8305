package analyse_test

import (
	"strconv"
	"strings"
	"testing"

	"stopwatch/analyse"
	"stopwatch/api"
	"stopwatch/typing"
)

// P11.2

func TestUnbrokenByHand(t *testing.T) {
	all := api.Env{}
	for _, x := range []struct {
		rule string
		want api.Env
		ok   bool
	}{
		{"older;", all, true},
		{"younger; wave; older;", all, true},
		{"draw;", all, false},
		{"bib;", all, false},
		{"older; draw;", all, false},
		{"draw; older;", all, false},
		{"older; bib; wave;", all, false},
		{"if short >= 1 { older; } else { wave; } draw;", all, false},
		{"if short >= 1 { draw; } else { bib; }", all, false},
		{"if short >= 1 { draw; } else { older; }", all, true},
		{"if short >= 1 { older; } else { bib; }", api.Env{Short: 1}, true},
		{"if field >= 5 { draw; } if field < 5 { bib; }", all, false},
		{"if field > 5 { draw; } if field < 5 { bib; }", api.Env{Field: 5}, true},
		{"if field < 5 { bib; }", api.Env{Field: 5}, true},
		{"if field < 4000 { bib; }", api.Env{Field: 4000}, true},
		{"if field <= 4000 { bib; }", all, false},
		{"if field >= 1 { bib; }", all, true},
		{"if field < 1 { bib; }", api.Env{Field: 1}, true},
		{"if distance < 1 { bib; }", api.Env{Distance: 1}, true},
		{"if distance < 7 { bib; }", api.Env{Distance: 7}, true},
		{"if distance <= 7 { bib; }", all, false},
		{"if short < 2 { bib; }", all, false},
		// The last environment.
		{"if not (distance >= 7 and field >= 4000 and short >= 1) { draw; }", api.Env{Distance: 7, Field: 4000, Short: 1}, true},
		// The order of environments.
		{"if not (short >= 1 or field >= 2) { draw; }", api.Env{Short: 1}, true},
		{"if not (short >= 1 or distance >= 2) { draw; }", api.Env{Short: 1}, true},
		{"if not (field >= 9 or distance >= 1) { draw; }", api.Env{Field: 9}, true},
		{"if not (field >= 9 and short >= 1 or distance >= 1) { draw; }", api.Env{Field: 9, Short: 1}, true},
		{"if not (field >= 9 and short >= 1 or field >= 10) { draw; }", api.Env{Field: 9, Short: 1}, true},
		{"if not (distance = 3 and field >= 9 or distance >= 4 or distance = 3 and field = 5 and short >= 1) { draw; }", api.Env{Distance: 3, Field: 5, Short: 1}, true},
	} {
		got, ok, e := analyse.Unbroken(ties(t, x.rule))
		if e != api.OK || ok != x.ok || got != x.want {
			t.Error(x.rule, got, ok, e)
		}
	}
}

func TestEqualByHand(t *testing.T) {
	first := api.Env{}
	for _, x := range []struct {
		a, b string
		same bool
		want api.Env
	}{
		{"older;", "older;", true, first},
		{"older;", "bib;", false, first},
		{"older; bib;", "bib; older;", false, first},
		{"older; bib;", "older;", false, first},
		{"older; bib; older;", "older; bib;", true, first},
		{"if short >= 1 { older; } else { older; }", "older;", true, first},
		{"if short >= 1 { older; }", "older;", false, first},
		{"if short >= 1 { older; } bib;", "bib;", false, api.Env{Short: 1}},
		{"if short >= 2 { older; } bib;", "bib;", true, first},
		{"if field >= 10000 { older; } bib;", "if distance >= 8 { wave; } bib;", true, first},
		{"if field >= 4001 { older; } bib;", "if field >= 4000 { older; } bib;", false, api.Env{Field: 4000}},
		{"if field >= 1 { older; } bib;", "if field >= 0 { older; } bib;", false, first},
		{"if field >= 1 { older; } bib;", "if field >= 2 { older; } bib;", false, api.Env{Field: 1}},
		{"if field >= 1 { older; } bib;", "if not field < 1 { older; } bib;", true, first},
		{"if distance >= 7 { older; } bib;", "if distance >= 8 { older; } bib;", false, api.Env{Distance: 7}},
		{"if distance >= 1 { older; } bib;", "if distance >= 3 { older; } bib;", false, api.Env{Distance: 1}},
		{"if field >= 3 { older; } bib;", "if short >= 1 { older; } bib;", false, api.Env{Short: 1}},
		{"if distance >= 3 { older; } bib;", "if field >= 9 { older; } bib;", false, api.Env{Field: 9}},
		{"if distance >= 3 { older; } bib;", "if short >= 1 { older; } bib;", false, api.Env{Short: 1}},
		{"if distance >= 7 and field >= 4000 and short >= 1 { draw; }", "if short >= 2 { draw; }", false, api.Env{Distance: 7, Field: 4000, Short: 1}},
		{"if distance = 5 and field = 70 { draw; } bib;", "if distance = 5 and field = 70 and short = 0 { draw; } bib;", false, api.Env{Distance: 5, Field: 70, Short: 1}},
		{"if field >= 3 { if field >= 5 { wave; } else { younger; } }", "if field >= 5 { wave; } if field >= 3 and field < 5 { younger; }", true, first},
		{"if not (field >= 3 and short >= 1) { wave; }", "if field < 3 or short < 1 { wave; }", true, first},
		// Conditions of one of the two that change where those of the other do not.
		{"if field >= 100 { bib; } else { if field >= 50 { bib; } else { bib; } }", "bib;", true, first},
		{"bib;", "if field >= 100 { if field >= 200 { bib; older; } else { bib; } } else { bib; }", false, api.Env{Field: 200}},
	} {
		l, m := ties(t, x.a), ties(t, x.b)
		for range 2 {
			if same, got, e := analyse.Equal(l, m); e != api.OK || same != x.same || got != x.want {
				t.Error(x.a, x.b, same, got, e)
			}
			l, m = m, l
		}
	}
}

func TestUnbrokenErrors(t *testing.T) {
	for i, x := range wrongRules() {
		got, ok, e := analyse.Unbroken(x.l)
		if e != x.want || e != typing.Ties(x.l) || e != api.OK && (ok || got != api.Env{}) {
			t.Error(i, got, ok, e)
		}
	}
}

// The error of the first rule comes before that of the second one.
func TestEqualErrors(t *testing.T) {
	for i, x := range wrongRules() {
		for k, y := range wrongRules() {
			want := x.want
			if want == api.OK {
				want = y.want
			}
			same, got, e := analyse.Equal(x.l, y.l)
			if e != want || e != api.OK && (same || got != api.Env{}) {
				t.Error(i, k, same, got, e)
			}
		}
	}
}

func TestUnbrokenOfRandomRules(t *testing.T) {
	a := newAuthor(3)
	found := map[bool]int{}
	late := 0
	for range 4000 {
		l := a.ties(a.Intn(5))
		want, wantOK := chapterUnbroken(l, ruleFields())
		got, ok, e := analyse.Unbroken(l)
		if e != api.OK || ok != wantOK || got != want {
			t.Fatal(l, got, ok, want, wantOK, e)
		}
		found[ok]++
		if got != (api.Env{}) {
			late++
		}
	}
	if found[false] < 1000 || found[true] < 1000 || late < 300 {
		t.Error(found, late)
	}
}

func TestEqualOfRandomRules(t *testing.T) {
	a := newAuthor(4)
	found := map[bool]int{}
	late := 0
	for range 4000 {
		l, m := a.pair()
		wantSame, want := chapterEqual(l, m, ruleFields())
		same, got, e := analyse.Equal(l, m)
		if e != api.OK || same != wantSame || got != want {
			t.Fatal(l, m, same, got, wantSame, want, e)
		}
		found[same]++
		if got != (api.Env{}) {
			late++
		}
	}
	if found[false] < 1000 || found[true] < 1000 || late < 300 {
		t.Error(found, late)
	}
}

// All numbers of starters, not only those at which something changes.
func TestFirstOfAllEnvironments(t *testing.T) {
	a := newAuthor(5)
	for range 6 {
		l, m := a.pair()
		wantSame, want := chapterEqual(l, m, allFields())
		if same, got, e := analyse.Equal(l, m); e != api.OK || same != wantSame || got != want {
			t.Fatal(l, m, same, got, wantSame, want, e)
		}
		want, wantOK := chapterUnbroken(l, allFields())
		if got, ok, e := analyse.Unbroken(l); e != api.OK || ok != wantOK || got != want {
			t.Fatal(l, got, ok, want, wantOK, e)
		}
	}
}

// stripes is a rule with 197 different numbers of starters, which bibs break all ties of, apart from the last environments: what is applied there is given.
func stripes(t *testing.T, last string) []api.Step {
	var text strings.Builder
	n := 0
	for i := range 14 {
		var parts []string
		for range 14 {
			n += 7
			parts = append(parts, "field >= "+strconv.Itoa(n))
		}
		text.WriteString("if distance >= " + strconv.Itoa(7-i%8) + " and (" + strings.Join(parts, " or ") + ") { wave; }\n")
	}
	return ties(t, text.String()+"if short >= 1 and field >= 3998 and distance >= 7 { "+last+" } else { bib; }")
}

func TestManyRanges(t *testing.T) {
	l, m := stripes(t, "older; bib;"), stripes(t, "older;")
	end := api.Env{Distance: 7, Field: 3998, Short: 1}
	if same, x, e := analyse.Equal(l, l); !same || x != (api.Env{}) || e != api.OK {
		t.Error(same, x, e)
	}
	if same, x, e := analyse.Equal(l, m); same || x != end || e != api.OK {
		t.Error(same, x, e)
	}
	if x, ok, e := analyse.Unbroken(l); ok || x != (api.Env{}) || e != api.OK {
		t.Error(x, ok, e)
	}
	if x, ok, e := analyse.Unbroken(m); !ok || x != end || e != api.OK {
		t.Error(x, ok, e)
	}
	// The steps from 8 on have the distances of the first ones, at greater numbers of starters.
	if got, e := analyse.Dead(l); e != api.OK || written(got) != "8 0 wave, 9 0 wave, 10 0 wave, 11 0 wave, 12 0 wave, 13 0 wave" {
		t.Error(written(got), e)
	}
}
