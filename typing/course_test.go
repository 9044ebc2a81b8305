package typing_test

import (
	"fmt"
	"math"
	"slices"
	"strings"
	"testing"

	"stopwatch/api"
	"stopwatch/typing"
)

// P7.3

// spring is a course in which nothing uses the last mat, wave, offence and category, the last two legs, and the last prize.
const spring = `course spring {
  mats { start line; start pier; pass turn; pass far; pass near; end finish; end quay; pass spare; }
  leg line to turn 0:30 .. 20:00; leg turn to far 0:30 .. 20:00; leg far to near 1:00 .. 1:00; leg near to far 0:00 .. 0:00; leg near to turn 0:01 .. 1:00:00;
  leg near to finish 0:30 .. 20:00; leg turn to turn 1:00 .. 20:00; leg pier to quay 1:00 .. 20:00; leg line to far 0:30 .. 19:00:00; leg far to finish 0:30 .. 10:00:00;
  leg turn to spare 1:00 .. 20:00; leg spare to spare 1:00 .. 20:00;
  distance brief gun { line; laps 3 { turn; laps 2 { far; near; } } finish; cutoff turn lap 2 45:00; cutoff near lap 6 1:00; cutoff line lap 1 0:00; extra turn; }
  distance direct chip { pier; quay; cutoff quay lap 1 0:00; }
  distance slow slot { laps 1 { line; laps 1 { far; } finish; } cutoff far lap 1 0:00; cutoff far lap 1 0:00; }
  wave elite 0:00; wave open 5:00; wave late 1:00:00;
  offence drafting 1:00; offence shortcut laps 1; offence abuse out; offence nothing 0:00;
  category junior 16 to 19; category adult 20 to 20; category senior 18 to 120;
  prize brief all 1 50000; prize brief junior 1 10000; prize direct all 1 1; prize slow senior 4000 2; prize slow senior 3 7;
  ties { older; if short >= 1 and field >= 3 { bib; } else { draw; wave; } }
  faults { misses 1; strays 2; window 2.0; residual 0.005; drift 20; }
  protest fee 5000 deadline 15:00;
}`

func expectCourse(t *testing.T, c api.Course, want api.Errno) {
	t.Helper()
	if e := typing.Course(c); e != want {
		t.Errorf("%s: got %d, want %d", short(c), e, want)
	}
}

// expectChange tells whether the course spring leads to an error when it is changed.
func expectChange(t *testing.T, name string, change func(c *api.Course), want api.Errno) {
	t.Helper()
	c := course(t, spring)
	change(&c)
	if e := typing.Course(c); e != want {
		t.Errorf("%s: got %d, want %d", name, e, want)
	}
}

func TestCourses(t *testing.T) {
	c := course(t, spring)
	before := copied(c)
	expectCourse(t, c, api.OK)
	if !same(c, before) {
		t.Errorf("%+v was %+v", c, before)
	}
	expectCourse(t, api.Course{}, api.ErrName)
	expectCourse(t, api.Course{Name: "a"}, api.ErrRange)
	expectCourse(t, api.Course{Ties: []api.Step{by(1)}}, api.ErrName)
	expectCourse(t, api.Course{Name: "a", Ties: []api.Step{by(1)}}, api.OK)
	expectCourse(t, api.Course{Name: "a", Mats: []api.Mat{}, Legs: []api.Leg{}, Distances: []api.Distance{}, Waves: []api.Wave{}, Offences: []api.Offence{}, Categories: []api.Category{}, Prizes: []api.Prize{}, Ties: []api.Step{by(1)}}, api.OK)
	expectChange(t, "without distances and prizes", func(c *api.Course) { c.Distances, c.Prizes = nil, nil }, api.OK)
	expectChange(t, "without legs", func(c *api.Course) { c.Legs = nil }, api.ErrRoute)
	expectChange(t, "without distances", func(c *api.Course) { c.Distances = nil }, api.ErrRange)
	expectChange(t, "without mats", func(c *api.Course) { c.Mats = nil }, api.ErrRange)
}

// Numbers.

// number is a number of the course spring.
type number struct {
	name    string
	at      func(c *api.Course) *int
	valid   []int
	invalid []int // ErrRange; as are the least and the greatest int
}

func (x number) expect(t *testing.T) {
	t.Helper()
	for _, n := range x.valid {
		expectChange(t, fmt.Sprint(x.name, " ", n), func(c *api.Course) { *x.at(c) = n }, api.OK)
	}
	for _, n := range append(x.invalid, math.MinInt, math.MaxInt) {
		expectChange(t, fmt.Sprint(x.name, " ", n), func(c *api.Course) { *x.at(c) = n }, api.ErrRange)
	}
}

func TestNumbersOfMatsAndLegs(t *testing.T) {
	for _, x := range []number{
		{"kind of the first mat", func(c *api.Course) *int { return &c.Mats[0].Kind }, []int{1}, []int{-1, 0, 4}},
		{"kind of the last mat", func(c *api.Course) *int { return &c.Mats[7].Kind }, []int{1, 2, 3}, []int{-1, 0, 4}},
		{"beginning of a leg", func(c *api.Course) *int { return &c.Legs[11].From }, []int{0, 1, 3, 4, 5, 6, 7}, []int{-1, 8}},
		{"end of a leg", func(c *api.Course) *int { return &c.Legs[11].To }, []int{0, 1, 2, 3, 4, 5, 6, 7}, []int{-1, 8}},
		{"beginning of the first leg", func(c *api.Course) *int { return &c.Legs[0].From }, []int{0}, []int{-1, 8}},
		{"end of the first leg", func(c *api.Course) *int { return &c.Legs[0].To }, []int{2}, []int{-1, 8}},
		{"least time of a leg", func(c *api.Course) *int { c.Legs[0].Max = 1 << 36; return &c.Legs[0].Min }, []int{0, 1, 1<<36 - 1, 1 << 36}, []int{-1, 1<<36 + 1}},
		{"greatest time of a leg", func(c *api.Course) *int { c.Legs[11].Min = 0; return &c.Legs[11].Max }, []int{0, 1, 1<<36 - 1, 1 << 36}, []int{-1, 1<<36 + 1}},
		{"least time that is less than the greatest one", func(c *api.Course) *int { c.Legs[11].Max = 100; return &c.Legs[11].Min }, []int{0, 99, 100}, []int{101, -1}},
		{"greatest time that is more than the least one", func(c *api.Course) *int { c.Legs[3].Min = 100; return &c.Legs[3].Max }, []int{100, 101}, []int{99, 0, -1}},
		{"both times of a leg", func(c *api.Course) *int { c.Legs[3].Min = -1; return &c.Legs[3].Max }, nil, []int{-1, 0, 1}},
	} {
		x.expect(t)
	}
}

func TestNumbersOfDistances(t *testing.T) {
	brief := func(c *api.Course) *api.Distance { return &c.Distances[0] }
	slow := func(c *api.Course) *api.Distance { return &c.Distances[2] }
	for _, x := range []number{
		{"timing", func(c *api.Course) *int { return &brief(c).Timing }, []int{1, 2, 3}, []int{-1, 0, 4}},
		{"timing of the last distance", func(c *api.Course) *int { return &slow(c).Timing }, []int{1, 2, 3}, []int{-1, 0, 4}},
		{"mat of a part", func(c *api.Course) *int { return &brief(c).Route[0].Mat }, []int{0}, []int{-1, 8}},
		{"mat of the last part", func(c *api.Course) *int { return &brief(c).Route[2].Mat }, []int{5}, []int{-1, 8}},
		{"mat of a part of laps", func(c *api.Course) *int { return &brief(c).Route[1].Parts[0].Mat }, []int{2}, []int{-1, 8}},
		{"mat of a part of laps of laps", func(c *api.Course) *int { return &brief(c).Route[1].Parts[1].Parts[1].Mat }, []int{4}, []int{-1, 8}},
		{"laps", func(c *api.Course) *int { brief(c).Cutoffs = nil; return &brief(c).Route[1].Laps }, []int{1, 3, 50}, []int{-1, 0, 65}},
		{"laps of laps", func(c *api.Course) *int { brief(c).Cutoffs = nil; return &brief(c).Route[1].Parts[1].Laps }, []int{1, 2, 41}, []int{-1, 0, 65}},
		{"most laps", func(c *api.Course) *int {
			brief(c).Cutoffs, brief(c).Route[1].Laps = nil, 1
			return &brief(c).Route[1].Parts[1].Laps
		}, []int{1, 63, 64}, []int{-1, 0, 65}},
		{"laps of a mat", func(c *api.Course) *int { return &brief(c).Route[0].Laps }, []int{0}, []int{-1, 1, 2, 64, 65}},
		{"laps of a mat of laps", func(c *api.Course) *int { return &slow(c).Route[0].Parts[1].Parts[0].Laps }, []int{0}, []int{-1, 1, 2, 64, 65}},
		{"mat of laps", func(c *api.Course) *int { return &brief(c).Route[1].Mat }, []int{0}, []int{-1, 1, 2, 7, 8}},
		{"mat of laps of laps", func(c *api.Course) *int { return &slow(c).Route[0].Parts[1].Mat }, []int{0}, []int{-1, 1, 2, 7, 8}},
		{"mat of a cut-off", func(c *api.Course) *int { return &brief(c).Cutoffs[2].Mat }, []int{0, 2, 3, 4, 5}, []int{-1, 8}},
		{"mat of the last cut-off", func(c *api.Course) *int { return &slow(c).Cutoffs[1].Mat }, []int{0, 3, 5}, []int{-1, 8}},
		{"lap of a cut-off", func(c *api.Course) *int { return &brief(c).Cutoffs[0].Lap }, []int{1, 2, 3}, []int{0, -1}},
		{"lap of the last cut-off", func(c *api.Course) *int { return &slow(c).Cutoffs[1].Lap }, []int{1}, []int{0, -1}},
		{"limit of a cut-off", func(c *api.Course) *int { return &brief(c).Cutoffs[0].Limit }, []int{0, 1, 1<<40 - 1, 1 << 40}, []int{-1, 1<<40 + 1}},
		{"limit of the last cut-off", func(c *api.Course) *int { return &slow(c).Cutoffs[1].Limit }, []int{0, 1 << 40}, []int{-1, 1<<40 + 1}},
		{"extra", func(c *api.Course) *int { return &brief(c).Extra }, []int{-1, 2}, []int{-2, 8}},
		{"extra of the last distance", func(c *api.Course) *int { return &slow(c).Extra }, []int{-1}, []int{-2, 8}},
	} {
		if strings.HasPrefix(x.name, "lap of") { // there is no limit for laps, but the route has fewer
			for _, n := range []int{7, 65, math.MaxInt} {
				expectChange(t, x.name, func(c *api.Course) { *x.at(c) = n }, api.ErrRoute)
			}
			expectChange(t, x.name, func(c *api.Course) { *x.at(c) = math.MinInt }, api.ErrRange)
			for _, n := range x.invalid {
				expectChange(t, x.name, func(c *api.Course) { *x.at(c) = n }, api.ErrRange)
			}
			continue
		}
		x.expect(t)
	}
}

func TestPartsOfRoutes(t *testing.T) {
	far := api.Part{Mat: 3}
	for name, p := range map[string]api.Part{
		"laps of nothing":            {Laps: 1},
		"many laps of nothing":       {Laps: 64, Parts: []api.Part{}},
		"a mat with parts":           {Mat: 3, Parts: []api.Part{far}},
		"a mat with laps":            {Mat: 3, Laps: 1},
		"a mat with laps and parts":  {Mat: 3, Laps: 1, Parts: []api.Part{far}},
		"parts without laps":         {Parts: []api.Part{far}},
		"negative laps with parts":   {Laps: -1, Parts: []api.Part{far}},
		"too many laps with parts":   {Laps: 65, Parts: []api.Part{far}},
		"no mat":                     {Mat: 8},
		"laps with a negative mat":   {Mat: -1, Laps: 1, Parts: []api.Part{far}},
		"laps of laps of nothing":    {Laps: 1, Parts: []api.Part{far, {Laps: 2}}},
		"laps of a mat with a lap":   {Laps: 1, Parts: []api.Part{{Mat: 3, Laps: 1}, far}},
		"laps of a mat with parts":   {Laps: 1, Parts: []api.Part{{Mat: 3, Parts: []api.Part{far}}}},
		"laps of laps of no mat":     {Laps: 1, Parts: []api.Part{far, {Laps: 1, Parts: []api.Part{far, {Mat: -1}}}}},
		"laps of laps with too many": {Laps: 1, Parts: []api.Part{{Laps: 65, Parts: []api.Part{far}}}},
	} {
		expectChange(t, name, func(c *api.Course) { c.Distances[0].Route[1] = p }, api.ErrRange)
		expectChange(t, name, func(c *api.Course) { c.Distances[2].Route[0].Parts[1] = p }, api.ErrRange)
		expectChange(t, name, func(c *api.Course) { c.Distances[2].Route = append(c.Distances[2].Route, p) }, api.ErrRange)
	}
	expectChange(t, "a mat without parts", func(c *api.Course) { c.Distances[2].Route[0].Parts[1] = api.Part{Mat: 3, Parts: []api.Part{}} }, api.OK)
}

func TestNumbersOfRulebooks(t *testing.T) {
	for _, x := range []number{
		{"gun", func(c *api.Course) *int { return &c.Waves[0].Gun }, []int{0, 1, 1<<40 - 1, 1 << 40}, []int{-1, 1<<40 + 1}},
		{"gun of the last wave", func(c *api.Course) *int { return &c.Waves[2].Gun }, []int{0, 1 << 40}, []int{-1, 1<<40 + 1}},
		{"time", func(c *api.Course) *int { return &c.Offences[0].Time }, []int{0, 1, 1<<36 - 1, 1 << 36}, []int{-1, 1<<36 + 1}},
		{"time of the last offence", func(c *api.Course) *int { return &c.Offences[3].Time }, []int{0, 1 << 36}, []int{-1, 1<<36 + 1}},
		{"time beside laps", func(c *api.Course) *int { return &c.Offences[1].Time }, []int{0}, []int{-1, 1, 1 << 36}},
		{"time beside out", func(c *api.Course) *int { return &c.Offences[2].Time }, []int{0}, []int{-1, 1, 1 << 36}},
		{"penalty laps", func(c *api.Course) *int { return &c.Offences[1].Laps }, []int{0, 1, 63, 64}, []int{-1, 65}},
		{"penalty laps of the last offence", func(c *api.Course) *int { return &c.Offences[3].Laps }, []int{0, 1, 64}, []int{-1, 65}},
		{"penalty laps beside a time", func(c *api.Course) *int { return &c.Offences[0].Laps }, []int{0}, []int{-1, 1, 64}},
		{"penalty laps beside out", func(c *api.Course) *int { return &c.Offences[2].Laps }, []int{0}, []int{-1, 1, 64}},
		{"least age", func(c *api.Course) *int { return &c.Categories[0].From }, []int{0, 1, 18, 19}, []int{-1, 20}},
		{"greatest age", func(c *api.Course) *int { return &c.Categories[0].To }, []int{16, 17, 119, 120}, []int{15, 0, -1, 121}},
		{"least age of the last category", func(c *api.Course) *int { return &c.Categories[2].From }, []int{0, 120}, []int{-1, 121}},
		{"greatest age of the last category", func(c *api.Course) *int { return &c.Categories[2].To }, []int{18, 120}, []int{17, 121}},
		{"distance of a prize", func(c *api.Course) *int { return &c.Prizes[4].Distance }, []int{0, 1, 2}, []int{-1, 3}},
		{"distance of the first prize", func(c *api.Course) *int { return &c.Prizes[0].Distance }, []int{0, 2}, []int{-1, 3}},
		{"category of a prize", func(c *api.Course) *int { return &c.Prizes[4].Category }, []int{-1, 0, 1, 2}, []int{-2, 3}},
		{"category of the first prize", func(c *api.Course) *int { return &c.Prizes[0].Category }, []int{-1, 1, 2}, []int{-2, 3}},
		{"rank of a prize", func(c *api.Course) *int { return &c.Prizes[4].Rank }, []int{1, 2, 3999}, []int{0, -1, 4001}},
		{"rank of the first prize", func(c *api.Course) *int { return &c.Prizes[0].Rank }, []int{1, 2, 4000}, []int{0, -1, 4001}},
		{"amount", func(c *api.Course) *int { return &c.Prizes[4].Amount }, []int{1, 2, 1<<50 - 1, 1 << 50}, []int{0, -1, 1<<50 + 1}},
		{"amount of the first prize", func(c *api.Course) *int { return &c.Prizes[0].Amount }, []int{1, 1 << 50}, []int{0, -1, 1<<50 + 1}},
		{"misses", func(c *api.Course) *int { return &c.Faults.Misses }, []int{0, 1, 15, 16}, []int{-1, 17}},
		{"strays", func(c *api.Course) *int { return &c.Faults.Strays }, []int{0, 1, 15, 16}, []int{-1, 17}},
		{"window", func(c *api.Course) *int { return &c.Faults.Window }, []int{0, 1, 1<<32 - 1, 1 << 32}, []int{-1, 1<<32 + 1}},
		{"residual", func(c *api.Course) *int { return &c.Faults.Residual }, []int{0, 1, 1<<32 - 1, 1 << 32}, []int{-1, 1<<32 + 1}},
		{"drift", func(c *api.Course) *int { return &c.Faults.Drift }, []int{0, 1, 99999, 100000}, []int{-1, 100001}},
		{"fee", func(c *api.Course) *int { return &c.Fee }, []int{0, 1, 1<<50 - 1, 1 << 50}, []int{-1, 1<<50 + 1}},
		{"deadline", func(c *api.Course) *int { return &c.Deadline }, []int{0, 1, 1<<40 - 1, 1 << 40}, []int{-1, 1<<40 + 1}},
	} {
		x.expect(t)
	}
	for i, o := range []api.Offence{{Time: 1, Out: true}, {Laps: 1, Out: true}, {Time: 1, Laps: 1}, {Time: 1, Laps: 1, Out: true}, {Time: -1, Laps: 1}, {Time: 1, Laps: -1}, {Time: -1, Out: true}, {Laps: -1, Out: true}, {Laps: 65, Out: true}} {
		o.Name = "other"
		expectChange(t, fmt.Sprint("offence ", i), func(c *api.Course) { c.Offences = append(c.Offences, o) }, api.ErrRange)
		expectChange(t, fmt.Sprint("offence ", i), func(c *api.Course) { c.Offences[0] = o }, api.ErrRange)
	}
}

func TestTwoOfAKind(t *testing.T) {
	for i := range course(t, spring).Legs {
		for _, x := range []struct{ least, most int }{{0, 0}, {0, 1 << 36}, {7, 8}} {
			again := func(c *api.Course) api.Leg {
				return api.Leg{From: c.Legs[i].From, To: c.Legs[i].To, Min: x.least, Max: x.most}
			}
			expectChange(t, fmt.Sprint("leg ", i, " again"), func(c *api.Course) { c.Legs = append(c.Legs, again(c)) }, api.ErrRange)
			expectChange(t, fmt.Sprint("leg ", i, " before"), func(c *api.Course) { c.Legs = slices.Insert(c.Legs, 0, again(c)) }, api.ErrRange)
		}
		expectChange(t, fmt.Sprint("leg ", i, " twice"), func(c *api.Course) { c.Legs = append(c.Legs, c.Legs[i]) }, api.ErrRange)
	}
	for name, leg := range map[string]api.Leg{"leg back": {From: 2, To: 0}, "leg from the same mat": {From: 0, To: 5}, "leg to the same mat": {From: 1, To: 2}} {
		expectChange(t, name, func(c *api.Course) { c.Legs = append(c.Legs, leg) }, api.OK)
	}
	for i := range course(t, spring).Prizes {
		for _, amount := range []int{1, 7, 50000} {
			change := func(c *api.Course) {
				z := c.Prizes[i]
				z.Amount = amount
				c.Prizes = append(c.Prizes, z)
			}
			expectChange(t, fmt.Sprint("prize ", i, " again"), change, api.ErrRange)
		}
	}
	for _, z := range []api.Prize{{Distance: 1, Category: 0, Rank: 1, Amount: 1}, {Distance: 0, Category: 2, Rank: 1, Amount: 1}, {Distance: 0, Category: 0, Rank: 2, Amount: 1}, {Distance: 2, Category: -1, Rank: 1, Amount: 50000}, {Distance: 0, Category: -1, Rank: 3, Amount: 50000}} {
		expectChange(t, fmt.Sprint("another prize ", z), func(c *api.Course) { c.Prizes = append(c.Prizes, z) }, api.OK)
	}
}

// Names.

const keywords = "course mats start pass end leg to distance gun chip slot laps lap cutoff extra wave offence out category prize all ties if else and or not older younger bib draw field short faults misses strays window residual drift protest fee deadline"

// namePlaces returns the places of names of the course spring; those of one list have the same class.
func namePlaces(t *testing.T) (l []func(c *api.Course) *string, class []int) {
	c := course(t, spring)
	add := func(n, many int, at func(c *api.Course, i int) *string) {
		for i := range many {
			l = append(l, func(c *api.Course) *string { return at(c, i) })
			class = append(class, n)
		}
	}
	add(0, 1, func(c *api.Course, _ int) *string { return &c.Name })
	add(1, len(c.Mats), func(c *api.Course, i int) *string { return &c.Mats[i].Name })
	add(2, len(c.Distances), func(c *api.Course, i int) *string { return &c.Distances[i].Name })
	add(3, len(c.Waves), func(c *api.Course, i int) *string { return &c.Waves[i].Name })
	add(4, len(c.Offences), func(c *api.Course, i int) *string { return &c.Offences[i].Name })
	add(5, len(c.Categories), func(c *api.Course, i int) *string { return &c.Categories[i].Name })
	return l, class
}

func TestNames(t *testing.T) {
	valid := strings.Fields("a z x9 a_ a__b n0_ mat distances lap_ laps1 keyword ab0123456789_yz a23456789012345678901234 zzzzzzzzzzzzzzzzzzzzzzzz")
	invalid := strings.Fields("A Z aB lineX 0 9 1a _ _a a-b a.b a, ä aä ß é a23456789012345678901234x aaaaaaaaaaaaaaaaaaaaaaaaaaaaaaaaaaaaaaaaaaaaaaaaaaaaa")
	invalid = append(invalid, "", " ", "a ", " a", "a b", "\x00", "a\x00", "a\n", "\xff", "a\xff", strings.Repeat("a", 70000))
	words := strings.Fields(keywords)
	if len(words) != 42 {
		t.Fatal(len(words))
	}
	places, _ := namePlaces(t)
	for i, at := range places {
		for _, s := range valid {
			expectChange(t, fmt.Sprint("name ", i, " ", s), func(c *api.Course) { *at(c) = s }, api.OK)
		}
		for _, s := range append(invalid, words...) {
			expectChange(t, fmt.Sprintf("name %d %.40q", i, s), func(c *api.Course) { *at(c) = s }, api.ErrName)
		}
	}
	for _, s := range words {
		for _, longer := range []string{s + "_", s + "x", "x" + s, s + s} {
			expectCourse(t, api.Course{Name: longer, Ties: []api.Step{by(1)}}, api.OK)
		}
		expectCourse(t, api.Course{Name: strings.ToUpper(s), Ties: []api.Step{by(1)}}, api.ErrName)
	}
}

func TestBytesOfNames(t *testing.T) {
	for b := range 256 {
		c := string([]byte{byte(b)})
		letter := strings.Contains("abcdefghijklmnopqrstuvwxyz", c)
		later := letter || strings.Contains("0123456789_", c)
		for _, x := range []struct {
			name string
			ok   bool
		}{{c, letter}, {c + "q", letter}, {c + strings.Repeat("q", 23), letter}, {"q" + c, later}, {"q" + c + "q", later}, {"qqq" + c + "qqq", later}, {strings.Repeat("q", 23) + c, later}, {strings.Repeat("q", 24) + c, false}} {
			want := map[bool]api.Errno{true: api.OK, false: api.ErrName}[x.ok]
			expectCourse(t, api.Course{Name: x.name, Ties: []api.Step{by(1)}}, want)
			expectCourse(t, api.Course{Name: "q", Waves: []api.Wave{{Name: "a1"}, {Name: x.name}, {Name: "b2"}}, Ties: []api.Step{by(1)}}, want)
		}
	}
}

func TestEqualNames(t *testing.T) {
	places, class := namePlaces(t)
	for i, at := range places {
		for k, other := range places[:i] {
			want := api.OK
			if class[i] == class[k] {
				want = api.ErrName
			}
			for _, s := range []string{"x", "line", "same_name"} {
				change := func(c *api.Course) {
					for n, x := range places { // no other one has this name
						*x(c) = numbered(n)
					}
					*at(c), *other(c) = s, s
				}
				expectChange(t, fmt.Sprint("names ", i, " and ", k), change, want)
			}
		}
	}
	expectChange(t, "one name in all lists", func(c *api.Course) {
		c.Name, c.Mats[3].Name, c.Distances[2].Name, c.Waves[1].Name, c.Offences[0].Name, c.Categories[0].Name = "x", "x", "x", "x", "x", "x"
	}, api.OK)
}
