package lexis_test

import (
	"bytes"
	"math"
	"math/big"
	"math/rand"
	"regexp"
	"slices"
	"strconv"
	"strings"
	"testing"

	"stopwatch/api"
	"stopwatch/lexis"
)

// The forms of the chapter, as regular expressions.
var (
	blankForm   = regexp.MustCompile(`^(?:[ \t\n\r]|#[^\n]*)+`)
	wordForm    = regexp.MustCompile(`^[A-Za-z][A-Za-z0-9_]*`)
	numberForm  = regexp.MustCompile(`^-?[0-9](?:[A-Za-z0-9_]|[:.][0-9])*`)
	integerForm = regexp.MustCompile(`^(?:0|-?[1-9][0-9]{0,17})$`)
	timeForm    = regexp.MustCompile(`^(-?)(0|[1-9][0-9]{0,17})(?:\.([0-9]{1,6})|:([0-5][0-9])(?::([0-5][0-9]))?(?:\.([0-9]{1,6}))?)$`)
	quotedForm  = regexp.MustCompile(`^"(?:[ !#-\[\]-~]|\\["\\n])*"`)
	signForm    = regexp.MustCompile(`^(?:\.\.|<=|>=|[{}()\[\];,=<>])`)

	printedTime = regexp.MustCompile(`^-?(?:[1-9][0-9]*:[0-5][0-9]|[1-5]?[0-9]):[0-5][0-9](?:\.[0-9]{0,5}[1-9])?$`)
)

// denoted returns what the time s denotes, by long numbers.
func denoted(s string) (t int, ok bool) {
	m := timeForm.FindStringSubmatch(s)
	if m == nil {
		return 0, false
	}
	n, _ := new(big.Int).SetString(m[2], 10)
	for _, p := range []string{m[4], m[5]} {
		if p != "" {
			x, _ := strconv.Atoi(p)
			n.Mul(n, big.NewInt(60)).Add(n, big.NewInt(int64(x)))
		}
	}
	for i := range 6 {
		fraction := m[3] + m[6]
		x := 0
		if i < len(fraction) {
			x = int(fraction[i] - '0')
		}
		n.Mul(n, big.NewInt(10)).Add(n, big.NewInt(int64(x)))
	}
	if n.Cmp(big.NewInt(1<<40)) > 0 || m[1] == "-" && n.Sign() == 0 {
		return 0, false
	}
	if m[1] == "-" {
		n.Neg(n)
	}
	return int(n.Int64()), true
}

// contentsOf returns what a quoted text stands for.
func contentsOf(quoted string) string {
	s, b := quoted[1:len(quoted)-1], []byte(nil)
	for s != "" {
		if s[0] == '\\' {
			s = map[byte]string{'"': `"`, '\\': `\`, 'n': "\n"}[s[1]] + s[2:]
		}
		b, s = append(b, s[0]), s[1:]
	}
	return string(b)
}

// oneToken returns the token that s begins with, which is not blank, and its length. Its Kind is 0 for invalid bytes.
func oneToken(s string) (t api.Token, n int) {
	if m := wordForm.FindString(s); m != "" {
		return api.Token{Kind: api.TokWord, Text: m}, len(m)
	}
	if m := numberForm.FindString(s); m != "" {
		_, isTime := denoted(m)
		switch {
		case integerForm.MatchString(m):
			return api.Token{Kind: api.TokInt, Text: m}, len(m)
		case isTime:
			return api.Token{Kind: api.TokTime, Text: m}, len(m)
		}
		return api.Token{}, len(m)
	}
	if m := quotedForm.FindString(s); m != "" {
		return api.Token{Kind: api.TokText, Text: contentsOf(m)}, len(m)
	}
	if m := signForm.FindString(s); m != "" {
		return api.Token{Kind: api.TokSign, Text: m}, len(m)
	}
	return api.Token{}, 1
}

// tokensOf returns the tokens of a text and the offsets of all its runs.
func tokensOf(text string) (l []api.Token, runs []int) {
	at, inRun := 0, false
	for {
		if blank := blankForm.FindString(text[at:]); blank != "" {
			at, inRun = at+len(blank), false
		}
		if at == len(text) {
			return append(l, api.Token{Kind: api.TokEnd, At: at}), runs
		}
		t, n := oneToken(text[at:])
		t.At = at
		if t.Kind != 0 {
			l, inRun = append(l, t), false
		} else if !inRun {
			runs, inRun = append(runs, at), true
		}
		at += n
	}
}

// sketch writes tokens as a letter for the kind, the offset, a colon and the text, and problems as `!` and the offset.
func sketch(l []api.Token, bad []api.Problem) string {
	var parts []string
	for _, t := range l {
		parts = append(parts, string("?wntqsE"[t.Kind])+strconv.Itoa(t.At)+":"+t.Text)
	}
	for _, p := range bad {
		parts = append(parts, "!"+strconv.Itoa(p.At))
	}
	return strings.Join(parts, " ")
}

func problems(runs []int) (bad []api.Problem) {
	for _, at := range runs[:min(len(runs), 64)] {
		bad = append(bad, api.Problem{At: at, Code: api.ErrToken})
	}
	return bad
}

func short(s string) string { return s[:min(len(s), 60)] }

// expectReference tells whether Tokens returns what the regular expressions say, and whether it leaves its argument as it is.
func expectReference(t *testing.T, text string) {
	t.Helper()
	src := []byte(text)
	l, bad, e := lexis.Tokens(src)
	want, runs := tokensOf(text)
	if e != api.OK || !slices.Equal(l, want) || !slices.Equal(bad, problems(runs)) {
		t.Errorf("%q: got %s, %d; want %s", short(text), short(sketch(l, bad)), e, short(sketch(want, problems(runs))))
	}
	if string(src) != text {
		t.Errorf("%q: the text has been changed", short(text))
	}
}

// P5.1

// examples are texts with a sketch of their tokens and problems, written by hand.
func examples() map[string]string {
	return map[string]string{
		"":                          "E0:",
		" \t\r\n":                   "E4:",
		"#":                         "E1:",
		"# no end":                  "E8:",
		"# end\n":                   "E6:",
		"#\n#a":                     "E4:",
		"a#b\nc#":                   "w0:a w4:c E6:",
		"#a\rb\nc":                  "w5:c E6:",
		"a\vb":                      "w0:a w2:b E3: !1",
		"a\x00b":                    "w0:a w2:b E3: !1",
		"misses 3;":                 "w0:misses n7:3 s8:; E9:",
		"Ab_9_ z":                   "w0:Ab_9_ w6:z E7:",
		"_a":                        "w1:a E2: !0",
		"a-b":                       "w0:a w2:b E3: !1",
		"a:1":                       "w0:a n2:1 E3: !1",
		"a.1":                       "w0:a n2:1 E3: !1",
		"caf\xc3\xa9s":              "w0:caf w5:s E6: !3",
		"0":                         "n0:0 E1:",
		"-1":                        "n0:-1 E2:",
		"-0":                        "E2: !0",
		"-00":                       "E3: !0",
		"00":                        "E2: !0",
		"007":                       "E3: !0",
		"-07":                       "E3: !0",
		"123456789012345678":        "n0:123456789012345678 E18:",
		"-123456789012345678":       "n0:-123456789012345678 E19:",
		"1234567890123456789":       "E19: !0",
		"-1234567890123456789":      "E20: !0",
		"12a":                       "E3: !0",
		"1_":                        "E2: !0",
		"1e5 0x1F":                  "E8: !0 !4",
		"1-1":                       "n0:1 n1:-1 E3:",
		"a-1":                       "w0:a n1:-1 E3:",
		"--1":                       "n1:-1 E3: !0",
		"- 1":                       "n2:1 E3: !0",
		"-a":                        "w1:a E2: !0",
		"-":                         "E1: !0",
		"-:1":                       "n2:1 E3: !0",
		"+1":                        "n1:1 E2: !0",
		"1:":                        "n0:1 E2: !1",
		"1.":                        "n0:1 E2: !1",
		"1.x":                       "n0:1 w2:x E3: !1",
		"1:x":                       "n0:1 w2:x E3: !1",
		"1.-5":                      "n0:1 n2:-5 E4: !1",
		"1.5:":                      "t0:1.5 E4: !3",
		"1:x2":                      "n0:1 w2:x2 E4: !1",
		".5":                        "n1:5 E2: !0",
		":30":                       "n1:30 E3: !0",
		"0:30 .. 20:00;":            "t0:0:30 s5:.. t8:20:00 s13:; E14:",
		"0:30..1":                   "t0:0:30 s4:.. n6:1 E7:",
		"1..2.5..3":                 "n0:1 s1:.. t3:2.5 s6:.. n8:3 E9:",
		"1...2":                     "n0:1 s1:.. n4:2 E5: !3",
		"2.0 0.005 0.0000001":       "t0:2.0 t4:0.005 E19: !10",
		"-1:30 -0:00 -0.0 -0.1":     "t0:-1:30 t17:-0.1 E21: !6 !12",
		"1:2":                       "E3: !0",
		"1:60":                      "E4: !0",
		"01:00":                     "E5: !0",
		"1:02:03:04":                "E10: !0",
		"1.2.3":                     "E5: !0",
		"1.5:00":                    "E6: !0",
		"1:00a":                     "E5: !0",
		"1:02:03.5;":                "t0:1:02:03.5 s9:; E10:",
		"305:25:11.627776":          "t0:305:25:11.627776 E16:",
		"-305:25:11.627776":         "t0:-305:25:11.627776 E17:",
		"305:25:11.627777":          "E16: !0",
		"-305:25:11.627777":         "E17: !0",
		"007%$":                     "E5: !0",
		"007%x":                     "w4:x E5: !0",
		"%007":                      "E4: !0",
		"%0":                        "n1:0 E2: !0",
		"%$ %":                      "E4: !0 !3",
		"%#\n%":                     "E4: !0 !3",
		"%x%":                       "w1:x E3: !0 !2",
		"00 00":                     "E5: !0 !3",
		"00%\"1_":                   "E6: !0",
		"\x80\xff":                  "E2: !0",
		"{}()[];,..=<><=>=":         "s0:{ s1:} s2:( s3:) s4:[ s5:] s6:; s7:, s8:.. s10:= s11:< s12:> s13:<= s15:>= E17:",
		"=<=>==":                    "s0:= s1:<= s3:>= s5:= E6:",
		"< = > =":                   "s0:< s2:= s4:> s6:= E7:",
		"<<>>":                      "s0:< s1:< s2:> s3:> E4:",
		".":                         "E1: !0",
		". .":                       "E3: !0 !2",
		"...":                       "s0:.. E3: !2",
		"....":                      "s0:.. s2:.. E4:",
		"!&*/|'":                    "E6: !0",
		`""`:                        "q0: E2:",
		`"a b"c`:                    "q0:a b w5:c E6:",
		`"a""b"`:                    "q0:a q3:b E6:",
		`"\"\\\n"`:                  "q0:\"\\\n E8:",
		`"\\n"`:                     `q0:\n E5:`,
		`"\\"\n"`:                   `q0:\ w5:n E7: !4 !6`,
		`"~ !#"`:                    "q0:~ !# E6:",
		`"1;..{"`:                   "q0:1;..{ E7:",
		`"`:                         "E1: !0",
		`"\`:                        "E2: !0",
		`"\"`:                       "E3: !0",
		`"a`:                        "w1:a E2: !0",
		`"a\"b`:                     "w1:a w4:b E5: !0 !2",
		`"\t"`:                      "w2:t E4: !0 !3",
		`"\x`:                       "w2:x E3: !0",
		`"\"\""`:                    `q0:"" E6:`,
		`\"a"`:                      "q1:a E4: !0",
		`"\"a\x"b"`:                 `w3:a w5:x q6:b E9: !0 !4`,
		`"\"%"1" "`:                 `q0:"% n5:1 q6:  E9:`,
		"\"a\nb\"":                  "w1:a w3:b E5: !0 !4",
		"\"\x7f\"":                  "E3: !0",
		"\"\x1f\"":                  "E3: !0",
		"\"\x80\"":                  "E3: !0",
		"\"\\\n\"":                  "E4: !0 !3",
		"\"#\"":                     "q0:# E3:",
		"\"#\n\"":                   "E4: !0 !3",
		"if short >= 1 { older; }":  "w0:if w3:short s9:>= n12:1 s14:{ w16:older s21:; s23:} E24:",
		"leg line to turn 0:30..1;": "w0:leg w4:line w9:to w12:turn t17:0:30 s21:.. n23:1 s24:; E25:",
	}
}

func TestExamplesOfTokens(t *testing.T) {
	for text, want := range examples() {
		l, bad, e := lexis.Tokens([]byte(text))
		if got := sketch(l, bad); got != want || e != api.OK {
			t.Errorf("%q: got %q, %d; want %q", text, got, e, want)
		}
		for _, p := range bad {
			if p.Code != api.ErrToken {
				t.Errorf("%q: got the problem %v", text, p)
			}
		}
		expectReference(t, text)
	}
}

func TestAllBytes(t *testing.T) {
	kinds, runs := map[int]int{}, 0
	for c := range 256 {
		l, bad, e := lexis.Tokens([]byte{byte(c)})
		if e != api.OK || len(l) == 0 || l[len(l)-1] != (api.Token{Kind: api.TokEnd, At: 1}) {
			t.Errorf("%d: got %v, %d", c, l, e)
		}
		for _, x := range l {
			kinds[x.Kind]++
		}
		runs += len(bad)
		for _, around := range []string{"a?b", "1?2", `"?"`, "%?%", "?.?", "\x80?\xff", "?#?"} {
			expectReference(t, strings.ReplaceAll(around, "?", string([]byte{byte(c)})))
		}
	}
	// Of all bytes, 4 are white space, and one begins a comment.
	if kinds[api.TokWord] != 52 || kinds[api.TokInt] != 10 || kinds[api.TokSign] != 11 || runs != 256-52-10-11-4-1 {
		t.Error(kinds, runs)
	}
}

// eachText calls a function with each text of at most the given length that consists of some letters.
func eachText(letters string, length int, call func(text string)) {
	var extend func(text string)
	extend = func(text string) {
		call(text)
		if len(text) == length {
			return
		}
		for i := range len(letters) {
			extend(text + letters[i:i+1])
		}
	}
	extend("")
}

func TestShortTexts(t *testing.T) {
	for _, x := range []struct {
		letters string
		length  int
	}{
		{"-016:.a_% \"#\n<=", 4},
		{"-016:.", 6},
		{`"\na` + "\n ", 6},
		{"<=>.{ ", 5},
		{"#\n %a", 6},
	} {
		eachText(x.letters, x.length, func(text string) { expectReference(t, text) })
	}
}

func pick(r *rand.Rand, l []string) string { return l[r.Intn(len(l))] }

func randomDigits(r *rand.Rand, length int) string {
	b := make([]byte, length)
	for i := range b {
		b[i] = byte('0' + r.Intn(10))
	}
	return string(b)
}

// randomNumber returns a text that is often an integer or a time, or nearly one.
func randomNumber(r *rand.Rand) string {
	s := pick(r, []string{"", "", "", "-"}) + pick(r, []string{"0", "1", "7", "59", "60", "305", "306", randomDigits(r, 1+r.Intn(20))})
	for range r.Intn(3) {
		s += ":" + pick(r, []string{"00", "01", "25", "11", "59", "60", "5", "005", randomDigits(r, 2)})
	}
	if r.Intn(2) == 0 {
		s += "." + pick(r, []string{"0", "5", "50", "000001", "627776", "627777", "0000000", "", randomDigits(r, 1+r.Intn(6))})
	}
	return s
}

// randomBytes returns few bytes of any kind.
func randomBytes(r *rand.Rand) string {
	b := make([]byte, r.Intn(4))
	r.Read(b)
	return string(b)
}

// randomText returns a text with the given number of parts, as they occur in sources.
func randomText(r *rand.Rand, parts int) string {
	s := ""
	for range parts {
		switch r.Intn(8) {
		case 0:
			s += pick(r, []string{"a", "Z9", "older", "if", "a_b", "x1_", "e5", "_"})
		case 1, 2:
			s += randomNumber(r)
		case 3:
			s += pick(r, []string{`"`, `""`, `"a b"`, `"\"`, `\"`, `"\n\\"`, `\`, `n"`, "\"a\nb\""})
		case 4:
			s += pick(r, []string{"{", "}", "(", ")", "[", "]", ";", ",", "..", "=", "<", ">", "<=", ">=", ".", ":", "-"})
		case 5:
			s += pick(r, []string{"%", "$", "\x00", "\x7f", "\xe9", randomBytes(r)})
		default:
			s += pick(r, []string{" ", "\n", "\t", "\r\n", "#", "# a\n", " # \"\n"})
		}
	}
	return s
}

func TestRandomTexts(t *testing.T) {
	r := rand.New(rand.NewSource(5))
	for range 40000 {
		expectReference(t, randomText(r, r.Intn(20)))
	}
	for range 100 {
		expectReference(t, randomText(r, 3000))
	}
}

func TestLongTexts(t *testing.T) {
	for _, x := range []struct {
		what, text   string
		tokens, runs int
	}{
		{"a word", strings.Repeat("a", 65536), 2, 0},
		{"a number", strings.Repeat("1", 65536), 1, 1},
		{"a number with points", strings.Repeat("1.", 32767) + "1", 1, 1},
		{"a number with colons", strings.Repeat("0:", 32767) + "00", 1, 1},
		{"white space", strings.Repeat(" ", 65536), 1, 0},
		{"a comment", strings.Repeat("#", 65536), 1, 0},
		{"a quoted text", `"` + strings.Repeat(`\"`, 32767) + `"`, 2, 0},
		{"a quoted text that does not end", `"` + strings.Repeat(`\"`, 32767), 1, 1},
		{"a quoted text that fails at its end", `"` + strings.Repeat(`\"`, 32766) + `\x`, 2, 1},
		{"a quoted text that fails at its end, and another one", `"` + strings.Repeat(`\"`, 32765) + `\x""`, 3, 1},
		{"invalid bytes", strings.Repeat("%", 65536), 1, 1},
		{"many signs", strings.Repeat(";", 65536), 65537, 0},
		{"many runs", strings.Repeat("% ", 32768), 1, 64},
		{"many words and runs", strings.Repeat("a%", 32768), 32769, 64},
	} {
		l, bad, e := lexis.Tokens([]byte(x.text))
		if e != api.OK || len(l) != x.tokens || len(bad) != x.runs || l[len(l)-1].At != len(x.text) {
			t.Errorf("%s: got %d tokens, %d problems, %d", x.what, len(l), len(bad), e)
		}
	}
}

func TestLimitsOfTokens(t *testing.T) {
	for _, text := range []string{strings.Repeat(" ", 65536), strings.Repeat("a;", 32768), strings.Repeat("%", 65536)} {
		if _, _, e := lexis.Tokens([]byte(text)); e != api.OK {
			t.Errorf("65536 bytes %q: got %d", short(text), e)
		}
		if l, bad, e := lexis.Tokens([]byte(text + "\n")); e != api.ErrLimit || len(l) > 0 || len(bad) > 0 {
			t.Errorf("65537 bytes %q: got %d, %d, %d", short(text), len(l), len(bad), e)
		}
	}
	for many := 62; many < 68; many++ {
		l, bad, e := lexis.Tokens([]byte(strings.Repeat("% ", many) + "a"))
		if e != api.OK || len(bad) != min(many, 64) || bad[len(bad)-1].At != 2*len(bad)-2 || len(l) != 2 || l[0].At != 2*many {
			t.Errorf("%d runs: got %v, %v, %d", many, l, bad, e)
		}
	}
	if l, bad, e := lexis.Tokens(nil); e != api.OK || len(bad) > 0 || !slices.Equal(l, []api.Token{{Kind: api.TokEnd}}) {
		t.Error(l, bad, e)
	}
}

const keywords = "course mats start pass end leg to distance gun chip slot laps lap cutoff extra wave offence out category prize all ties if else and or not older younger bib draw field short faults misses strays window residual drift protest fee deadline"

func TestKeyword(t *testing.T) {
	list := strings.Fields(keywords)
	if len(list) != 42 {
		t.Fatal(len(list))
	}
	for _, w := range list {
		if !lexis.Keyword(w) {
			t.Errorf("%q is a keyword", w)
		}
		for _, x := range []string{strings.ToUpper(w), strings.ToUpper(w[:1]) + w[1:], w + "s", w + " ", " " + w, "x" + w, w[1:], w[:len(w)-1], w + "\x00", w + "_"} {
			if lexis.Keyword(x) != slices.Contains(list, x) {
				t.Errorf("%q: got %t", x, lexis.Keyword(x))
			}
		}
	}
	for _, w := range []string{"", "Course", "fee deadline", keywords, "brief", "none", "first", "void", "read", "time", "{", "0"} {
		if lexis.Keyword(w) {
			t.Errorf("%q is no keyword", w)
		}
	}
	// Of the words of at most three letters, these are the keywords.
	few := ""
	eachText("abcdefghijklmnopqrstuvwxyz", 3, func(w string) {
		if lexis.Keyword(w) {
			few += w + " "
		}
	})
	if few != "all and bib end fee gun if lap leg not or out to " {
		t.Error(few)
	}
}

// P5.2

func wordToken(s string) api.Token { return api.Token{Kind: api.TokWord, Text: s} }

func intToken(s string) api.Token { return api.Token{Kind: api.TokInt, Text: s} }

func timeToken(s string) api.Token { return api.Token{Kind: api.TokTime, Text: s} }

func textToken(s string) api.Token { return api.Token{Kind: api.TokText, Text: s} }

func signToken(s string) api.Token { return api.Token{Kind: api.TokSign, Text: s} }

func endToken() api.Token { return api.Token{Kind: api.TokEnd} }

// ended returns a list with an end.
func ended(l ...api.Token) []api.Token { return append(slices.Clip(l), endToken()) }

func expectJoined(t *testing.T, what string, l []api.Token, want string) {
	t.Helper()
	before := slices.Clone(l)
	b, e := lexis.Join(l)
	if e != api.OK || string(b) != want {
		t.Errorf("%s: got %q, %d; want %q", what, short(string(b)), e, short(want))
	}
	if !slices.Equal(l, before) {
		t.Errorf("%s: the tokens have been changed", what)
	}
}

func expectNotJoined(t *testing.T, what string, l []api.Token, want api.Errno) {
	t.Helper()
	if b, e := lexis.Join(l); e != want || len(b) > 0 {
		t.Errorf("%s: got %q, %d; want %d", what, short(string(b)), e, want)
	}
}

func TestJoin(t *testing.T) {
	for _, x := range []struct {
		what string
		l    []api.Token
		want string
	}{
		{"the end alone", ended(), ""},
		{"a word", ended(wordToken("a")), "a"},
		{"a keyword", ended(wordToken("course")), "course"},
		{"two words", ended(wordToken("Ab_9"), wordToken("Z_")), "Ab_9 Z_"},
		{"integers", ended(intToken("0"), intToken("-7"), intToken("123456789012345678")), "0 -7 123456789012345678"},
		{"times", ended(timeToken("2.50"), timeToken("-1:30"), timeToken("62:03.50"), timeToken("305:25:11.627776")), "2.50 -1:30 62:03.50 305:25:11.627776"},
		{"texts", ended(textToken(""), textToken("a b"), textToken("x\"\n\\")), `"" "a b" "x\"\n\\"`},
		{"a text of sequences", ended(textToken(`\n\"\\`)), `"\\n\\\"\\\\"`},
		{"the first and last bytes of texts", ended(textToken(" !#[]^~")), `" !#[]^~"`},
		{"all signs", ended(signToken("{"), signToken("}"), signToken("("), signToken(")"), signToken("["), signToken("]"), signToken(";"), signToken(","), signToken(".."), signToken("="), signToken("<"), signToken(">"), signToken("<="), signToken(">=")), "{ } ( ) [ ] ; , .. = < > <= >="},
		{"signs that could be one", ended(signToken("<"), signToken("=")), "< ="},
		{"all kinds", ended(wordToken("a"), signToken(".."), textToken("#"), intToken("-7"), timeToken("2.50")), `a .. "#" -7 2.50`},
	} {
		expectJoined(t, x.what, x.l, x.want)
		for i := range x.l {
			x.l[i].At = []int{7, -1, math.MinInt, math.MaxInt, 0}[i%5]
		}
		expectJoined(t, x.what+", with other offsets", x.l, x.want)
	}
}

func TestTokensThatAreNotValid(t *testing.T) {
	for _, x := range []struct {
		kind  int
		texts []string
	}{
		{api.TokWord, []string{"", "_a", "9a", "a b", " a", "a ", "a-b", "a\n", "\xe9", "a\x00", ";", "\"a\""}},
		{api.TokInt, []string{"", "-", "-0", "00", "007", "-01", "+1", "1 ", " 1", "1_000", "1a", "1.0", "0:30", "1234567890123456789", "-1234567890123456789", "0x1", "1-1", "--1", "\x00"}},
		{api.TokTime, []string{"", "30", "-30", "0", "1:60", "1:5", "-0:00", "-0.0", "01:00", "0.0000001", "1.", ".5", "1:00 ", "1:00a", "305:25:11.627777", "1:02:03:04", "1.5:00"}},
		{api.TokText, []string{"\t", "\r", "\x00", "\x1f", "\x7f", "\x80", "\xff", "caf\xc3\xa9", "a\n\tb", "a\x0b"}},
		{api.TokSign, []string{"", ".", "...", "<=>", "==", "=<", "!", "a", " ;", "; ", ";;", "-", ":", "\"", "#"}},
		{api.TokEnd, []string{"", "x"}},
		{0, []string{"", "a"}},
		{7, []string{"", "a"}},
		{-1, []string{"", "a"}},
		{math.MaxInt, []string{"a"}},
		{math.MinInt, []string{"a"}},
	} {
		for _, s := range x.texts {
			what := strconv.Itoa(x.kind) + ", " + strconv.Quote(s)
			bad := api.Token{Kind: x.kind, Text: s}
			expectNotJoined(t, what, ended(bad), api.ErrArg)
			expectNotJoined(t, what+" at the end", ended(wordToken("a"), textToken("b"), bad), api.ErrArg)
			expectNotJoined(t, what+" at the beginning", ended(bad, wordToken("a"), textToken("b")), api.ErrArg)
		}
	}
	expectNotJoined(t, "no tokens", nil, api.ErrArg)
	expectNotJoined(t, "an empty list", []api.Token{}, api.ErrArg)
	expectNotJoined(t, "no end", []api.Token{wordToken("a")}, api.ErrArg)
	expectNotJoined(t, "a text in the place of the end", []api.Token{wordToken("a"), textToken("")}, api.ErrArg)
	expectNotJoined(t, "an end with a text", []api.Token{{Kind: api.TokEnd, Text: " "}}, api.ErrArg)
	expectNotJoined(t, "two ends", []api.Token{endToken(), endToken()}, api.ErrArg)
	expectNotJoined(t, "an end in the middle", ended(wordToken("a"), endToken(), wordToken("b")), api.ErrArg)
}

func TestTextsOfAllBytes(t *testing.T) {
	for c := range 256 {
		s := string([]byte{byte(c)})
		if c != 10 && (c < 32 || c > 126) {
			expectNotJoined(t, strconv.Quote(s), ended(textToken("a"+s+"b")), api.ErrArg)
			continue
		}
		b, e := lexis.Join(ended(textToken("a" + s + "b")))
		if e != api.OK || !quotedForm.Match(b) || contentsOf(string(b)) != "a"+s+"b" {
			t.Errorf("%q: got %q, %d", s, b, e)
		}
	}
}

func TestLimitOfJoin(t *testing.T) {
	long := strings.Repeat("a", 65536)
	expectJoined(t, "a word of 65536 bytes", ended(wordToken(long)), long)
	expectNotJoined(t, "a word of 65537 bytes", ended(wordToken(long+"a")), api.ErrLimit)
	expectJoined(t, "two words of 65536 bytes together", ended(wordToken(long[:65534]), wordToken("b")), long[:65534]+" b")
	expectNotJoined(t, "two words of 65537 bytes together", ended(wordToken(long[:65535]), wordToken("b")), api.ErrLimit)
	expectJoined(t, "a text of 65534 bytes", ended(textToken(long[:65534])), `"`+long[:65534]+`"`)
	expectNotJoined(t, "a text of 65535 bytes", ended(textToken(long[:65535])), api.ErrLimit)
	expectJoined(t, "a text of 32767 sequences", ended(textToken(strings.Repeat("\n", 32767))), `"`+strings.Repeat(`\n`, 32767)+`"`)
	expectNotJoined(t, "a text of 32768 sequences", ended(textToken(strings.Repeat("\n", 32768))), api.ErrLimit)
	signs := slices.Repeat([]api.Token{signToken(";")}, 32769)
	expectNotJoined(t, "32769 signs", ended(signs...), api.ErrLimit)
	expectNotJoined(t, "32768 signs and an end with a text", append(slices.Clone(signs), api.Token{Kind: api.TokEnd, Text: "x"}), api.ErrArg)
	expectNotJoined(t, "too much before a token that is not valid", ended(wordToken(long), wordToken(long), intToken("-0")), api.ErrArg)
	expectNotJoined(t, "too much after a token that is not valid", ended(intToken("-0"), wordToken(long), wordToken(long)), api.ErrArg)
	b, e := lexis.Join(ended(signs[:32768]...))
	if e != api.OK || len(b) != 65535 {
		t.Error(len(b), e)
	}
}

// P5.3

func TestExamplesOfTimes(t *testing.T) {
	for s, want := range map[string]int{
		"0.0": 0, "0:00": 0, "0:00:00": 0, "0:00.000000": 0, "0:00:00.0": 0,
		"0.000001": 1, "-0.000001": -1, "-0:00.000001": -1, "-0:00:00.000001": -1,
		"2.0": 2000000, "0.5": 500000, "0.05": 50000, "0.005": 5000, "0.000005": 5, "0.123456": 123456, "0.100000": 100000,
		"0:30": 30000000, "1:02.5": 62500000, "90.5": 90500000, "-90.5": -90500000, "-1:30": -90000000, "59:59.999999": 3599999999,
		"60:00": 3600000000, "1:00:00": 3600000000, "1:02:03.5": 3723500000, "62:03.50": 3723500000, "-1:02:03.5": -3723500000,
		"0:59:59": 3599000000, "0:00:59": 59000000, "100:59:59.1": 363599100000,
		"305:25:11.627776": 1 << 40, "-305:25:11.627776": -1 << 40, "18325:11.627776": 1 << 40, "1099511.627776": 1 << 40, "305:25:11.627775": 1<<40 - 1,
	} {
		if n, e := lexis.Time(s); n != want || e != api.OK {
			t.Errorf("%q: got %d, %d; want %d", s, n, e, want)
		}
		if n, ok := denoted(s); n != want || !ok {
			t.Errorf("%q: the tests themselves say %d, %t", s, n, ok)
		}
	}
}

func TestTextsThatAreNoTimes(t *testing.T) {
	for _, s := range []string{
		"", "-", ".", ":", "12", "-12", "0", "-0", "1.", "1:", "-1.", "1:00.", "1:00:", "1:00:00.", ".5", ":30", "-.5", "-:30", "::", "1::00", ":00:00",
		"1:60", "1:99", "1:5", "1:005", "1:00:60", "1:60:00", "1:2:03", "1:02:3", "1:02:003", "1:02:03:04", "0:00:00:00", "1:-5", "1:+5", "1:5a", "1:a5", "1: 5",
		"01:00", "00:30", "00.5", "-01:00", "007.0", "1.0000000", "0.0000001", "1.2.3", "1.5:00", "1:00.5:00", "1:00.5.5", "1.-5", "1.+5", "1.5e1", "1.1_1", "1_1.0",
		"-0:00", "-0.0", "-0:00:00.000000", "-0.000000", "+1:00", "--1:00", "- 1:00", " 1:00", "1:00 ", "1:00\n", "1:00\x00", "1;00", "a:00", "0x1:00", "1:00a", "\xe9", "1,5",
		"305:25:11.627777", "-305:25:11.627777", "18325:11.627777", "1099511.627777", "-1099511.627777", "1099512.0", "305:25:12", "305:26:00", "306:00:00", "18326:00", "1099511:00", "1099511:00:00", "1099512:00:00",
		"999999999999999999.0", "999999999999999999:00", "999999999999999999:59:59.999999", "-999999999999999999:00:00", "2562047788015215:30:07", "18446744073709.551616", "1000000000000000000:00", "99999999999999999999:00", "18446744073709551616:00", "18446744073709551617.0",
		strings.Repeat("0:", 100000) + "00", strings.Repeat("1", 100000) + ".0", "0." + strings.Repeat("0", 100000), strings.Repeat("-", 1000),
	} {
		if n, e := lexis.Time(s); n != 0 || e != api.ErrToken {
			t.Errorf("%q: got %d, %d", short(s), n, e)
		}
		if _, ok := denoted(s); ok {
			t.Errorf("%q: the tests themselves say that it is a time", short(s))
		}
	}
}

func expectTimeOf(t *testing.T, s string) {
	t.Helper()
	n, e := lexis.Time(s)
	want, ok := denoted(s)
	if n != want || ok != (e == api.OK) || !ok && e != api.ErrToken {
		t.Errorf("%q: got %d, %d; want %d, %t", s, n, e, want, ok)
	}
}

func TestTimesByReference(t *testing.T) {
	eachText("-0156:.", 6, func(s string) { expectTimeOf(t, s) })
	r := rand.New(rand.NewSource(6))
	for range 200000 {
		s := randomNumber(r)
		expectTimeOf(t, s)
		if b := []byte(s); len(b) > 0 {
			b[r.Intn(len(b))] = "0123456789:.- a"[r.Intn(15)]
			expectTimeOf(t, string(b))
		}
	}
	for c := range 256 {
		for _, s := range []string{"?:00", "1?00", "1:?0", "1:0?", "1:00?", "1:00.?", "1.?", "?1.0", "1:00:0?"} {
			expectTimeOf(t, strings.ReplaceAll(s, "?", string([]byte{byte(c)})))
		}
	}
}

func TestExamplesOfTimeText(t *testing.T) {
	for n, want := range map[int]string{
		0: "0:00", 1: "0:00.000001", -1: "-0:00.000001", 10: "0:00.00001", 100000: "0:00.1", 120000: "0:00.12", 123456: "0:00.123456", 999999: "0:00.999999",
		5000: "0:00.005", 1000000: "0:01", 1000001: "0:01.000001", 9000000: "0:09", 10000000: "0:10", 59999999: "0:59.999999", 60000000: "1:00", 90500000: "1:30.5",
		-90000000: "-1:30", 600000000: "10:00", 3599999999: "59:59.999999", -3599999999: "-59:59.999999", 3600000000: "1:00:00", -3600000000: "-1:00:00", 3600000001: "1:00:00.000001",
		3723500000: "1:02:03.5", 35999000000: "9:59:59", 36000000000: "10:00:00", 360000000000: "100:00:00", 1<<40 - 1: "305:25:11.627775", 1 << 40: "305:25:11.627776", -1 << 40: "-305:25:11.627776",
	} {
		if s, e := lexis.TimeText(n); s != want || e != api.OK {
			t.Errorf("%d: got %q, %d; want %q", n, s, e, want)
		}
	}
	for _, n := range []int{1<<40 + 1, -1<<40 - 1, 1 << 41, math.MaxInt, math.MinInt, math.MinInt + 1, 1<<63 - 1<<40} {
		if s, e := lexis.TimeText(n); s != "" || e != api.ErrArg {
			t.Errorf("%d: got %q, %d", n, s, e)
		}
	}
}

// expectTimeText tells whether the text of a time has the form that is asked for, and denotes it: only one text does.
func expectTimeText(t *testing.T, n int) {
	t.Helper()
	s, e := lexis.TimeText(n)
	back, ok := denoted(s)
	long := strings.Count(s, ":") == 2
	if e != api.OK || !printedTime.MatchString(s) || !ok || back != n || long != (max(n, -n) >= 3600000000) {
		t.Errorf("%d: got %q, %d", n, s, e)
	}
}

// someTimes returns times of all sizes, and the ones near whole seconds, minutes and hours.
func someTimes() (l []int) {
	for _, unit := range []int{1, 10, 1000, 1000000, 60000000, 3600000000} {
		for _, many := range []int{0, 1, 2, 9, 10, 11, 59, 60, 61, 99, 100, 119, 120, 304, 305} {
			for _, near := range []int{-1000001, -100, -1, 0, 1, 100, 1000001} {
				n := unit*many + near
				l = append(l, n, -n)
			}
		}
	}
	r := rand.New(rand.NewSource(7))
	for range 100000 {
		n := r.Intn(1<<40+1) >> r.Intn(40)
		l = append(l, n, -n, n/1000000*1000000)
	}
	return l
}

func TestTimeTextByReference(t *testing.T) {
	for _, n := range someTimes() {
		expectTimeText(t, n)
	}
}

// P5.4

func withoutOffsets(l []api.Token) []api.Token {
	l = slices.Clone(l)
	for i := range l {
		l[i].At = 0
	}
	return l
}

func TestJoiningAndSplitting(t *testing.T) {
	r := rand.New(rand.NewSource(8))
	check := func(source string) {
		l, bad, e := lexis.Tokens([]byte(source))
		if e != api.OK || len(bad) > 0 {
			return
		}
		b, e := lexis.Join(l)
		if e != api.OK {
			t.Errorf("%q: Join: got %d", short(source), e)
		}
		again, bad, e := lexis.Tokens(b)
		if e != api.OK || len(bad) > 0 || !slices.Equal(withoutOffsets(again), withoutOffsets(l)) {
			t.Errorf("%q: got %s", short(source), short(sketch(again, bad)))
		}
		if c, e := lexis.Join(again); e != api.OK || !bytes.Equal(b, c) {
			t.Errorf("%q: joined again: got %q, %d", short(source), short(string(c)), e)
		}
	}
	for source := range examples() {
		check(source)
	}
	for range 100000 {
		check(randomText(r, r.Intn(8)))
	}
	eachText("<=>.1-:0", 5, check)
}

// TestJoiningWithInvalidBytes joins what is left of texts with invalid bytes: their tokens are valid, too.
func TestJoiningWithInvalidBytes(t *testing.T) {
	r := rand.New(rand.NewSource(9))
	for range 30000 {
		source := randomText(r, r.Intn(20))
		l, _, _ := lexis.Tokens([]byte(source))
		b, e := lexis.Join(l)
		again, bad, f := lexis.Tokens(b)
		if e != api.OK || f != api.OK || len(bad) > 0 || !slices.Equal(withoutOffsets(again), withoutOffsets(l)) {
			t.Errorf("%q: got %q, %d", source, b, e)
		}
	}
}

func TestOffsets(t *testing.T) {
	r := rand.New(rand.NewSource(10))
	for range 30000 {
		source := randomText(r, r.Intn(20))
		l, bad, _ := lexis.Tokens([]byte(source))
		last := -1
		for _, x := range l {
			if x.At <= last {
				t.Errorf("%q: the offset %d follows %d", source, x.At, last)
			}
			last = x.At
		}
		if last > len(source) || l[len(l)-1].Kind != api.TokEnd {
			t.Errorf("%q: the last offset is %d", source, last)
		}
		for i, p := range bad {
			if i > 0 && p.At <= bad[i-1].At || p.At >= len(source) {
				t.Errorf("%q: got %v", source, bad)
			}
		}
	}
}

func TestTimesAndTexts(t *testing.T) {
	for _, n := range someTimes() {
		s, e := lexis.TimeText(n)
		if back, f := lexis.Time(s); e != api.OK || f != api.OK || back != n {
			t.Errorf("%d: got %q, %d, %d", n, s, back, f)
		}
	}
	r := rand.New(rand.NewSource(11))
	for range 100000 {
		s := randomNumber(r)
		n, e := lexis.Time(s)
		if e != api.OK {
			continue
		}
		form, e := lexis.TimeText(n)
		if back, f := lexis.Time(form); e != api.OK || f != api.OK || back != n {
			t.Errorf("%q: got %q, %d, %d", s, form, back, f)
		}
	}
}
