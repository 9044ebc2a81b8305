package analyse_test

import (
	"fmt"
	"slices"
	"strings"
	"testing"

	"stopwatch/analyse"
	"stopwatch/api"
	"stopwatch/typing"
)

// P11.1

// written returns dead leaves as a text, each with its path and the name of its criterion.
func written(l []api.Dead) string {
	var texts []string
	for _, d := range l {
		name := "no criterion"
		if 1 <= d.By && d.By <= 5 {
			name = []string{"", "older", "younger", "wave", "bib", "draw"}[d.By]
		}
		texts = append(texts, strings.Trim(fmt.Sprint(d.Path), "[]")+" "+name)
	}
	return strings.Join(texts, ", ")
}

func TestDeadByHand(t *testing.T) {
	for _, x := range []struct{ rule, want string }{
		{"older;", ""},
		{"older; younger; wave; bib; draw;", ""},
		{"if field >= 3 { if field < 3 { bib; } older; } older; older;", "0 0 0 bib, 2 older"}, // the chapter's example
		// A criterion that has been applied.
		{"older; older;", "1 older"},
		{"bib; older; bib; draw; older; bib;", "2 bib, 4 older, 5 bib"},
		{"wave; if short >= 1 { wave; } else { wave; younger; }", "1 0 wave, 1 -1 wave"},
		{"if short >= 1 { wave; wave; } else { wave; } wave;", "0 1 wave, 1 wave"},
		{"if short >= 1 { wave; } else { younger; } wave;", ""},
		{"if short >= 1 { wave; } else { younger; } if short >= 1 { wave; } else { younger; }", "1 0 wave, 1 -1 younger"},
		{"if short >= 1 { wave; } else { younger; } if short >= 1 { younger; } else { wave; }", ""},
		{"if short >= 1 { wave; } if field >= 5 { wave; } if short >= 1 or field >= 5 { wave; }", "2 0 wave"},
		{"if short >= 1 { wave; } if field >= 5 { wave; } if short >= 1 or field >= 4 { wave; }", ""},
		{"if short >= 1 { wave; } if short >= 1 { if field >= 5 { wave; draw; } draw; }", "1 0 0 wave"},
		{"if field >= 9 { bib; } if field >= 5 { bib; } if field < 5 { bib; } bib;", "3 bib"},
		{"if field >= 9 { bib; } if field >= 5 { bib; } if field < 4 { bib; } bib;", ""},
		// Leaves that are not reached leave their criterion to others.
		{"if short >= 2 { wave; } wave; wave;", "0 0 wave, 2 wave"},
		{"if short >= 1 { if short < 1 { wave; } } wave;", "0 0 0 wave"},
		// The ends of the variables.
		{"if distance >= 0 { older; } else { bib; }", "0 -1 bib"},
		{"if distance >= 1 { older; } else { bib; }", ""},
		{"if distance >= 7 { older; } else { bib; }", ""},
		{"if distance >= 8 { older; } else { bib; }", "0 0 older"},
		{"if field >= 0 { older; } else { bib; }", "0 -1 bib"},
		{"if field >= 1 { older; } else { bib; }", ""},
		{"if field >= 4000 { older; } else { bib; }", ""},
		{"if field >= 4001 { older; } else { bib; }", "0 0 older"},
		{"if field >= 10000 { older; } else { bib; }", "0 0 older"},
		{"if short >= 0 { older; } else { bib; }", "0 -1 bib"},
		{"if short >= 1 { older; } else { bib; }", ""},
		{"if short >= 2 { older; } else { bib; }", "0 0 older"},
		// Conditions that hold in one environment, or in none.
		{"if distance >= 7 and field >= 4000 and short >= 1 { older; }", ""},
		{"if not (distance >= 1 or field >= 1 or short >= 1) { older; }", ""},
		{"if distance >= 7 { if field >= 4000 { older; } } if short < 1 { older; } if short >= 1 { older; }", ""},
		{"if field >= 3 and field < 4 { older; } else { if field >= 3 and field <= 3 { bib; } }", "0 -1 0 bib"},
		{"if field > 3 and field < 4 { older; }", "0 0 older"},
		{"if not (field >= 3 or not field >= 3) { older; } else { older; }", "0 0 older"},
		{"if distance >= 3 { if distance < 5 { if distance = 4 { bib; } if distance = 2 { wave; } } else { draw; } }", "0 0 1 0 wave"},
		// Order and paths: Then before Else, and indices of Else from -1 downwards.
		{"if short >= 2 { older; younger; if field >= 1 { bib; } else { bib; draw; } } else { older; }", "0 0 older, 0 1 younger, 0 2 0 bib, 0 2 -1 bib, 0 2 -2 draw"},
		{"draw; if field >= 1 { bib; } else { draw; draw; if field >= 2 { wave; } else { draw; if field >= 2 { older; } else { younger; } } }", "1 -1 draw, 1 -2 draw, 1 -3 0 wave, 1 -3 -1 draw, 1 -3 -2 0 older"},
	} {
		got, e := analyse.Dead(ties(t, x.rule))
		if e != api.OK || written(got) != x.want {
			t.Errorf("%s: %s, not %s (%d)", x.rule, written(got), x.want, e)
		}
	}
}

// Leaves of each depth that typing.Ties admits.
func TestDeadInDepthOfThen(t *testing.T) {
	l := []api.Step{by(api.BibB), by(api.BibB), by(api.WaveB), by(api.BibB)}
	for depth := 1; depth <= 16; depth++ {
		l = []api.Step{choice(atLeast(api.ShortV, 1), l)}
		path := "0" + strings.Repeat(" 0", depth-1)
		got, e := analyse.Dead(l)
		if e != api.OK || written(got) != path+" 1 bib, "+path+" 3 bib" {
			t.Error(depth, written(got), e)
		}
	}
}

// The elses lead downwards, each behind leaves that are applied above it.
func TestDeadInDepthOfElse(t *testing.T) {
	l := []api.Step{by(api.BibB), by(api.BibB)}
	for depth := 1; depth <= 16; depth++ {
		l = []api.Step{by(api.WaveB), choice(atLeast(api.ShortV, 1), []api.Step{by(api.WaveB)}, l...)}
		var want []string
		path := "1"
		for range depth - 1 {
			want = append(want, path+" 0 wave", path+" -1 wave")
			path += " -2"
		}
		want = append(want, path+" 0 wave", path+" -2 bib")
		got, e := analyse.Dead(l)
		if e != api.OK || written(got) != strings.Join(want, ", ") {
			t.Error(depth, written(got), e)
		}
	}
}

func TestDeadOfManySteps(t *testing.T) {
	l := slices.Repeat([]api.Step{by(api.BibB)}, 64)
	got, e := analyse.Dead(l)
	if e != api.OK || len(got) != 63 {
		t.Fatal(written(got), e)
	}
	for i, d := range got {
		if d.By != api.BibB || !slices.Equal(d.Path, []int{i + 1}) {
			t.Error(i, d)
		}
	}
}

func TestDeadErrors(t *testing.T) {
	for i, x := range wrongRules() {
		got, e := analyse.Dead(x.l)
		if e != x.want || e != typing.Ties(x.l) || e != api.OK && len(got) > 0 {
			t.Error(i, got, e)
		}
	}
}

func sameDead(a, b []api.Dead) bool {
	return slices.EqualFunc(a, b, func(x, y api.Dead) bool { return x.By == y.By && slices.Equal(x.Path, y.Path) })
}

func TestDeadOfRandomRules(t *testing.T) {
	a := newAuthor(1)
	some, deep := 0, 0
	for range 3000 {
		l := a.ties(a.Intn(5))
		want := chapterDead(l, ruleFields())
		got, e := analyse.Dead(l)
		if e != api.OK || !sameDead(got, want) {
			t.Fatal(l, written(got), written(want), e)
		}
		some += min(len(want), 1)
		for _, d := range want {
			deep += min(len(d.Path)/4, 1)
		}
	}
	if some < 1000 || some > 2700 || deep < 1000 {
		t.Error(some, deep)
	}
}

// All numbers of starters, not only those at which something changes.
func TestDeadInAllEnvironments(t *testing.T) {
	a := newAuthor(2)
	for range 6 {
		l := a.ties(2)
		want := chapterDead(l, allFields())
		if got, e := analyse.Dead(l); e != api.OK || !sameDead(got, want) {
			t.Fatal(l, written(got), written(want), e)
		}
	}
}

// Every tie rule of three steps of a small vocabulary.
func TestDeadOfSmallRules(t *testing.T) {
	bib, wave := []api.Step{by(api.BibB)}, []api.Step{by(api.WaveB)}
	vocabulary := []api.Step{bib[0], wave[0]}
	for _, c := range []api.Cond{atLeast(api.FieldV, 3), not(atLeast(api.FieldV, 2)), atLeast(api.ShortV, 1), atLeast(api.DistanceV, 8)} {
		vocabulary = append(vocabulary, choice(c, bib), choice(c, bib, wave...), choice(c, wave, slices.Concat(bib, wave)...))
	}
	for _, x := range vocabulary {
		for _, y := range vocabulary {
			for _, z := range vocabulary {
				l := []api.Step{x, y, z}
				want := chapterDead(l, []int{0, 1, 2, 3})
				if got, e := analyse.Dead(l); e != api.OK || !sameDead(got, want) {
					t.Fatal(l, written(got), written(want), e)
				}
			}
		}
	}
}

func TestRulesKeepTheirSteps(t *testing.T) {
	for seed := range int64(200) {
		l, again := newAuthor(seed).ties(3), newAuthor(seed).ties(3)
		dead, _ := analyse.Dead(l)
		text := written(dead)
		x, ok, _ := analyse.Unbroken(l)
		same, _, _ := analyse.Equal(l, again)
		later, _ := analyse.Dead(l)
		y, okLater, _ := analyse.Unbroken(l)
		if !same || fmt.Sprint(l) != fmt.Sprint(again) || written(dead) != text || written(later) != text || y != x || okLater != ok {
			t.Fatal(l, again)
		}
	}
}
