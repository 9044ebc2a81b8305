package codec_test

import (
	"bytes"
	"math"
	"math/big"
	"math/rand"
	"slices"
	"strings"
	"testing"

	"stopwatch/api"
	"stopwatch/codec"
)

func integer(n int) api.Value { return api.Value{Kind: api.IntV, N: n} }

func text(s string) api.Value { return api.Value{Kind: api.TextV, S: s} }

func list(l ...api.Value) api.Value { return api.Value{Kind: api.ListV, L: l} }

func zeros(many int) api.Value { return list(slices.Repeat([]api.Value{integer(0)}, many)...) }

// nested returns v inside of many lists of one element each.
func nested(many int, v api.Value) api.Value {
	for range many {
		v = list(v)
	}
	return v
}

// join returns the bytes of all parts: numbers, characters, texts and lists of bytes.
func join(parts ...any) []byte {
	var b []byte
	for _, p := range parts {
		switch x := p.(type) {
		case int:
			b = append(b, byte(x))
		case rune:
			b = append(b, byte(x))
		case string:
			b = append(b, x...)
		case []byte:
			b = append(b, x...)
		default:
			panic("a part of no such type")
		}
	}
	return b
}

func many(b byte, n int) []byte { return bytes.Repeat([]byte{b}, n) }

// numeralOf returns the numeral of a number, by divisions of long numbers.
func numeralOf(u *big.Int) []byte {
	base, rest := big.NewInt(128), new(big.Int)
	var digits []byte
	for u = new(big.Int).Set(u); len(digits) == 0 || u.Sign() > 0; {
		u.DivMod(u, base, rest)
		digits = append(digits, byte(rest.Int64()))
	}
	for i := range len(digits) - 1 {
		digits[i] += 128
	}
	return digits
}

func unsignedForm(n int) *big.Int {
	double := new(big.Int).Lsh(big.NewInt(int64(n)), 1)
	if n >= 0 {
		return double
	}
	return double.Neg(double).Sub(double, big.NewInt(1))
}

// encodingOf returns the encoding of a well-formed value as the table of the chapter says it.
func encodingOf(v api.Value) []byte {
	switch v.Kind {
	case api.IntV:
		return join(1, numeralOf(unsignedForm(v.N)))
	case api.TextV:
		return join(2, numeralOf(big.NewInt(int64(len(v.S)))), v.S)
	}
	b := join(3, numeralOf(big.NewInt(int64(len(v.L)))))
	for _, x := range v.L {
		b = append(b, encodingOf(x)...)
	}
	return b
}

func randomInteger(r *rand.Rand) int {
	return int(r.Uint64() >> uint(r.Intn(64)) * uint64(1-2*r.Intn(2)))
}

func randomText(r *rand.Rand) string {
	length := r.Intn(4)
	if r.Intn(20) == 0 {
		length = 100 + r.Intn(60)
	}
	b := make([]byte, length)
	r.Read(b)
	return string(b)
}

// randomValue returns a well-formed value of at most the given depth.
func randomValue(r *rand.Rand, depth int) api.Value {
	switch k := r.Intn(5); {
	case k == 0:
		return text(randomText(r))
	case k == 1 || depth == 0:
		return integer(randomInteger(r))
	}
	v := list()
	for range r.Intn(4) {
		v.L = append(v.L, randomValue(r, r.Intn(depth)))
	}
	return v
}

// copyOf returns a value that shares no slice with v.
func copyOf(v api.Value) api.Value {
	v.L = slices.Clone(v.L)
	for i, x := range v.L {
		v.L[i] = copyOf(x)
	}
	return v
}

// expectValue tells whether v has the encoding want, for all four functions that deal with it.
func expectValue(t *testing.T, what string, v api.Value, want []byte) {
	t.Helper()
	if e := codec.Check(v); e != api.OK {
		t.Errorf("%s: Check: got %d", what, e)
	}
	if n, e := codec.Size(v); e != api.OK || n != len(want) {
		t.Errorf("%s: Size: got %d, %d; want %d", what, n, e, len(want))
	}
	if b, e := codec.Encode(v); e != api.OK || !bytes.Equal(b, want) {
		t.Errorf("%s: Encode: got %v, %d; want %v", what, short(b), e, short(want))
	}
	if x, e := codec.Decode(want); e != api.OK || !codec.Same(x, v) {
		t.Errorf("%s: Decode: got %v, %d", what, x.Kind, e)
	}
}

func expectNoValue(t *testing.T, what string, b []byte) {
	t.Helper()
	v, e := codec.Decode(b)
	if e != api.ErrCode || v.Kind != 0 || v.N != 0 || v.S != "" || len(v.L) > 0 {
		t.Errorf("%s: Decode: got %v, %d", what, v.Kind, e)
	}
}

func short(b []byte) []byte { return b[:min(len(b), 24)] }

// P2.1 and P2.2

// examples are values with their encodings, written by hand.
func examples() []struct {
	what string
	v    api.Value
	want []byte
} {
	return []struct {
		what string
		v    api.Value
		want []byte
	}{
		{"0", integer(0), join(1, 0)},
		{"1", integer(1), join(1, 2)},
		{"-1", integer(-1), join(1, 1)},
		{"2", integer(2), join(1, 4)},
		{"-3", integer(-3), join(1, 5)},
		{"100", integer(100), join(1, 200, 1)},
		{"the last integer with one digit", integer(63), join(1, 126)},
		{"the last negative integer with one digit", integer(-64), join(1, 127)},
		{"the first integer with two digits", integer(64), join(1, 128, 1)},
		{"the first negative integer with two digits", integer(-65), join(1, 129, 1)},
		{"the last integer with two digits", integer(8191), join(1, 254, 127)},
		{"the first integer with three digits", integer(8192), join(1, 128, 128, 1)},
		{"2^62 - 1", integer(1<<62 - 1), join(1, 254, many(255, 7), 127)},
		{"2^62", integer(1 << 62), join(1, many(128, 9), 1)},
		{"-2^62", integer(-1 << 62), join(1, many(255, 8), 127)},
		{"the greatest int", integer(math.MaxInt), join(1, 254, many(255, 8), 1)},
		{"the least int", integer(math.MinInt), join(1, many(255, 9), 1)},
		{"the empty text", text(""), join(2, 0)},
		{"ab", text("ab"), join(2, 2, 97, 98)},
		{"a text with a byte 0", text("\x00"), join(2, 1, 0)},
		{"a text that is not UTF-8", text("\xff\xc0\x80"), join(2, 3, 255, 192, 128)},
		{"a text that is an encoding", text("\x02\x00"), join(2, 2, 2, 0)},
		{"a text of 127 bytes", text(strings.Repeat("x", 127)), join(2, 127, many('x', 127))},
		{"a text of 128 bytes", text(strings.Repeat("x", 128)), join(2, 128, 1, many('x', 128))},
		{"a text of 16384 bytes", text(strings.Repeat("x", 16384)), join(2, 128, 128, 1, many('x', 16384))},
		{"the empty list", list(), join(3, 0)},
		{"the list of the chapter", list(integer(100), text("ab")), join(3, 2, 1, 200, 1, 2, 2, 97, 98)},
		{"the list the other way round", list(text("ab"), integer(100)), join(3, 2, 2, 2, 97, 98, 1, 200, 1)},
		{"lists in a list", list(list(), list(integer(0)), text("")), join(3, 3, 3, 0, 3, 1, 1, 0, 2, 0)},
		{"a list of 127 elements", zeros(127), join(3, 127, bytes.Repeat([]byte{1, 0}, 127))},
		{"a list of 128 elements", zeros(128), join(3, 128, 1, bytes.Repeat([]byte{1, 0}, 128))},
		{"16 lists, the innermost empty", nested(15, list()), join(bytes.Repeat([]byte{3, 1}, 15), 3, 0)},
		{"16 lists with an integer", nested(16, integer(-1)), join(bytes.Repeat([]byte{3, 1}, 16), 1, 1)},
		{"16 lists with a text", nested(16, text("a")), join(bytes.Repeat([]byte{3, 1}, 16), 2, 1, 'a')},
		{"16 lists in the last element", list(integer(0), nested(14, list())), join(3, 2, 1, 0, bytes.Repeat([]byte{3, 1}, 14), 3, 0)},
	}
}

func TestExamples(t *testing.T) {
	for _, x := range examples() {
		expectValue(t, x.what, x.v, x.want)
		if !bytes.Equal(encodingOf(x.v), x.want) {
			t.Errorf("%s: the tests themselves encode it as %v", x.what, short(encodingOf(x.v)))
		}
	}
}

func TestNumbersOfDigits(t *testing.T) {
	for bit := range 64 {
		for _, near := range []int{-2, -1, 0, 1, 2} {
			n := int(uint64(1)<<uint(bit)) + near
			expectValue(t, "an integer", integer(n), encodingOf(integer(n)))
			expectValue(t, "a negative integer", integer(-n), encodingOf(integer(-n)))
		}
	}
}

func TestValuesThatAreNotValid(t *testing.T) {
	for _, x := range []struct {
		what string
		v    api.Value
		want api.Errno
	}{
		{"no kind", api.Value{}, api.ErrArg},
		{"no kind, with a number", api.Value{N: 1}, api.ErrArg},
		{"a kind after the last one", api.Value{Kind: 4}, api.ErrArg},
		{"a negative kind", api.Value{Kind: -1}, api.ErrArg},
		{"the greatest kind", api.Value{Kind: math.MaxInt}, api.ErrArg},
		{"the least kind", api.Value{Kind: math.MinInt}, api.ErrArg},
		{"a kind that is 1 as a byte", api.Value{Kind: 257}, api.ErrArg},
		{"an integer with a text", api.Value{Kind: api.IntV, N: 5, S: "5"}, api.ErrArg},
		{"an integer with a list", api.Value{Kind: api.IntV, L: []api.Value{integer(1)}}, api.ErrArg},
		{"a text with a number", api.Value{Kind: api.TextV, N: 1, S: "a"}, api.ErrArg},
		{"a text with a list", api.Value{Kind: api.TextV, L: []api.Value{integer(1)}}, api.ErrArg},
		{"a list with a number", api.Value{Kind: api.ListV, N: -1}, api.ErrArg},
		{"a list with a text", api.Value{Kind: api.ListV, S: "a", L: []api.Value{integer(1)}}, api.ErrArg},
		{"a list with a malformed last element", list(integer(0), text(""), api.Value{}), api.ErrArg},
		{"a list with a malformed first element", list(api.Value{Kind: 4}, integer(0)), api.ErrArg},
		{"a malformed value at the greatest depth", nested(16, api.Value{Kind: api.IntV, S: "a"}), api.ErrArg},
		{"a malformed value below the greatest depth", nested(17, api.Value{}), api.ErrArg},
		{"a malformed value far below", nested(60000, api.Value{}), api.ErrArg},
		{"a malformed value after one that is too deep", list(nested(16, list()), api.Value{}), api.ErrArg},
		{"a malformed value before one that is too deep", list(api.Value{}, nested(16, list())), api.ErrArg},
		{"17 lists, the innermost empty", nested(16, list()), api.ErrLimit},
		{"17 lists with an integer", nested(17, integer(1)), api.ErrLimit},
		{"too deep in the last element", list(integer(1), list(), nested(15, list()), nested(16, list())), api.ErrLimit},
		{"too deep in the first element", list(nested(16, list()), list()), api.ErrLimit},
		{"60000 lists", nested(60000, integer(1)), api.ErrLimit},
	} {
		if e := codec.Check(x.v); e != x.want {
			t.Errorf("%s: Check: got %d, want %d", x.what, e, x.want)
		}
		if b, e := codec.Encode(x.v); e != x.want || len(b) > 0 {
			t.Errorf("%s: Encode: got %v, %d; want %d", x.what, short(b), e, x.want)
		}
		if n, e := codec.Size(x.v); e != x.want || n != 0 {
			t.Errorf("%s: Size: got %d, %d; want %d", x.what, n, e, x.want)
		}
	}
}

// P2.2

func TestBytesThatAreNoEncoding(t *testing.T) {
	for _, x := range []struct {
		what string
		b    []byte
	}{
		{"no bytes", nil},
		{"an empty slice", []byte{}},
		{"the kind 0", join(0)},
		{"the kind 0 with a number", join(0, 0)},
		{"the kind 4", join(4, 0)},
		{"the kind 129", join(129, 0)},
		{"the kind 255", join(255, 0)},
		{"an integer without a numeral", join(1)},
		{"a numeral that does not end", join(1, 128)},
		{"a long numeral that does not end", join(1, many(255, 9))},
		{"a superfluous digit", join(1, 128, 0)},
		{"a superfluous digit after others", join(1, 129, 128, 0)},
		{"two superfluous digits", join(1, 129, 128, 128, 0)},
		{"a superfluous digit after ten", join(1, many(255, 9), 129, 0)},
		{"many superfluous digits", join(1, many(128, 1000), 0)},
		{"a byte after an integer", join(1, 5, 0)},
		{"an integer after an integer", join(1, 5, 1, 5)},
		{"the number 2^64", join(1, many(128, 9), 2)},
		{"a number of more than 64 bits", join(1, many(255, 9), 2)},
		{"the greatest number of ten digits", join(1, many(255, 9), 127)},
		{"a number of eleven digits", join(1, many(128, 10), 1)},
		{"a number of eleven digits, the tenth one set", join(1, many(255, 10), 1)},
		{"a number of very many digits", join(1, many(128, 100000), 1)},
		{"a text without a numeral", join(2)},
		{"a text without its byte", join(2, 1)},
		{"a text that is too short", join(2, 3, 97)},
		{"a byte after a text", join(2, 0, 0)},
		{"a length with a superfluous digit", join(2, 128, 0)},
		{"a length of 2^63", join(2, many(128, 9), 1)},
		{"a length of 2^63 - 1", join(2, many(255, 8), 127)},
		{"the greatest length", join(2, many(255, 9), 1)},
		{"a length of more than 64 bits", join(2, many(255, 9), 2)},
		{"a length of 2^64 and 1", join(2, 129, many(128, 8), 2, 97)},
		{"a list without a numeral", join(3)},
		{"a list without its element", join(3, 1)},
		{"a list with a part of its element", join(3, 1, 1)},
		{"a list without its last element", join(3, 2, 1, 0)},
		{"a list with an element of no kind", join(3, 1, 0, 0)},
		{"a list with an element that is no encoding", join(3, 1, 1, 128, 0)},
		{"a list with an element that is too long", join(3, 1, 2, 1)},
		{"a byte after a list", join(3, 0, 0)},
		{"a list after a list", join(3, 0, 3, 0)},
		{"an element that is too many", join(3, 1, 1, 0, 1, 0)},
		{"a number of elements with a superfluous digit", join(3, 129, 0, 1, 0)},
		{"2^63 elements", join(3, many(128, 9), 1)},
		{"the greatest number of elements", join(3, many(255, 9), 1, 1, 0)},
		{"2^64 elements", join(3, many(128, 9), 2)},
		{"17 lists, the innermost empty", join(bytes.Repeat([]byte{3, 1}, 16), 3, 0)},
		{"17 lists with an integer", join(bytes.Repeat([]byte{3, 1}, 17), 1, 0)},
		{"17 lists in the last element", join(3, 2, 1, 0, bytes.Repeat([]byte{3, 1}, 15), 3, 0)},
		{"a million lists", join(bytes.Repeat([]byte{3, 1}, 1000000), 3, 0)},
	} {
		expectNoValue(t, x.what, x.b)
	}
}

// TestShortByteStrings counts the encodings among all short strings of bytes, so that none is accepted or rejected wrongly.
func TestShortByteStrings(t *testing.T) {
	count := func(begin []byte, free int) int {
		n, b := 0, join(begin, many(0, free))
		for i := range 1 << (8 * free) {
			for k := range free {
				b[len(begin)+k] = byte(i >> (8 * k))
			}
			v, e := codec.Decode(b)
			if e == api.OK {
				n++
			}
			if back, f := codec.Encode(v); f == api.OK != (e == api.OK) || e == api.OK && !bytes.Equal(back, b) {
				t.Fatalf("%v: got %v, %d", b, v, e)
			}
		}
		return n
	}
	for _, x := range []struct {
		begin      []byte
		free, want int
	}{
		{nil, 0, 0}, {nil, 1, 0}, {nil, 2, 128 + 1 + 1},
		{join(0), 2, 0}, {join(1), 2, 128 * 127}, {join(2), 2, 256}, {join(3), 2, 0}, {join(4), 2, 0},
		// A digit after nine others is 1, and is the last one; the digit before it has any value.
		{join(1, many(255, 9)), 1, 1}, {join(1, many(128, 9)), 1, 1}, {join(1, many(255, 9)), 2, 0}, {join(1, many(128, 8)), 2, 128},
		// Lists of one element of two or three bytes; lists whose elements do not fill or do not fit into two bytes.
		{join(3, 1), 2, 130}, {join(3, 1, 1), 2, 128 * 127}, {join(3, 0), 2, 0}, {join(3, 2), 2, 0},
		// The last elements of lists of two.
		{join(3, 2, 1, 7), 2, 130}, {join(3, 2, 2, 1), 2, 0}, {join(3, 2, 3, 1, 1, 7), 2, 130},
		// As deep as possible, and one deeper.
		{bytes.Repeat([]byte{3, 1}, 16), 2, 129}, {bytes.Repeat([]byte{3, 1}, 15), 2, 130}, {bytes.Repeat([]byte{3, 1}, 17), 2, 0},
	} {
		if n := count(x.begin, x.free); n != x.want {
			t.Errorf("%v and %d bytes: got %d encodings, want %d", x.begin, x.free, n, x.want)
		}
	}
}

func TestAlteredEncodings(t *testing.T) {
	r := rand.New(rand.NewSource(1))
	for range 3000 {
		v := randomValue(r, 5)
		b := encodingOf(v)
		for n := range len(b) {
			expectNoValue(t, "a beginning of an encoding", b[:n])
		}
		expectNoValue(t, "an encoding and a byte", join(b, r.Intn(256)))
		expectNoValue(t, "an encoding and another one", join(b, encodingOf(randomValue(r, 2))))
		for range 20 {
			c := slices.Clone(b)
			c[r.Intn(len(c))] = byte(r.Intn(256))
			x, e := codec.Decode(c)
			if e == api.OK && (codec.Check(x) != api.OK || !bytes.Equal(encodingOf(x), c)) {
				t.Errorf("%v: got %v", c, x)
			}
			if e != api.OK {
				expectNoValue(t, "an altered encoding", c)
			}
		}
	}
}

// P2.3

func TestSame(t *testing.T) {
	different := []api.Value{
		{}, {Kind: 4}, {Kind: -1}, {N: 1}, {S: "a"}, {L: []api.Value{{}}},
		integer(0), integer(1), integer(-1), integer(math.MinInt), integer(math.MaxInt),
		{Kind: api.IntV, S: "a"}, {Kind: api.IntV, L: []api.Value{{}}}, {Kind: api.TextV, N: 1}, {Kind: api.ListV, S: "a"},
		text(""), text("a"), text("A"), text("ab"), text("a\x00"), text("\xff"), text("\xef\xbf\xbd"),
		list(), list(api.Value{}), list(list()), list(text("")), list(integer(0)), list(integer(0), integer(0)),
		list(integer(0), integer(1)), list(integer(1), integer(0)), list(integer(1)), list(list(integer(0)), integer(0)),
		list(list(integer(0), integer(0))), list(integer(0), list(integer(0))), nested(16, list()), nested(17, list()),
		nested(60000, integer(0)), nested(60000, integer(1)), nested(60001, integer(0)),
	}
	// Each of them is the same only as itself, malformed and deep values included.
	for i, x := range different {
		for k, y := range different {
			if same := codec.Same(x, copyOf(y)); same != (i == k) {
				t.Errorf("%d and %d: got %v", i, k, same)
			}
		}
	}
}

func TestSameOfEmptySlices(t *testing.T) {
	for kind := -1; kind <= 4; kind++ {
		a, b := api.Value{Kind: kind}, api.Value{Kind: kind, L: []api.Value{}}
		if !codec.Same(a, b) || !codec.Same(b, a) || !codec.Same(list(a, integer(1)), list(b, integer(1))) {
			t.Errorf("the kind %d: nil and an empty slice differ", kind)
		}
		if codec.Check(a) != codec.Check(b) {
			t.Errorf("the kind %d: Check depends on nil", kind)
		}
	}
	a, e := codec.Encode(api.Value{Kind: api.TextV, S: "a", L: []api.Value{}})
	if e != api.OK || !bytes.Equal(a, join(2, 1, 'a')) {
		t.Errorf("a text with an empty slice: got %v, %d", a, e)
	}
}

// P2.4

func TestDecodeAndEncodeAreInverse(t *testing.T) {
	r := rand.New(rand.NewSource(2))
	for range 5000 {
		v := randomValue(r, api.MaxDepth)
		expectValue(t, "a random value", v, encodingOf(v))
		b, _ := codec.Encode(v)
		x, e := codec.Decode(b)
		if e != api.OK || !codec.Same(x, v) || !codec.Same(v, x) {
			t.Fatalf("Decode of Encode: got %v, %d; want %v", x, e, v)
		}
		if c, e := codec.Encode(x); e != api.OK || !bytes.Equal(c, b) {
			t.Fatalf("Encode of Decode: got %v, %d; want %v", short(c), e, short(b))
		}
	}
}

func TestEncodingsAreNoBeginnings(t *testing.T) {
	r := rand.New(rand.NewSource(3))
	var values []api.Value
	for n := -300; n <= 300; n++ {
		values = append(values, integer(n), list(integer(n)), text(strings.Repeat("\x01", n+300)))
	}
	for range 3000 {
		values = append(values, randomValue(r, 3))
	}
	type pair struct {
		v api.Value
		b []byte
	}
	var pairs []pair
	for _, v := range values {
		b, e := codec.Encode(v)
		if e != api.OK {
			t.Fatal(v, e)
		}
		pairs = append(pairs, pair{v, b})
	}
	// In this order, an encoding is followed at once by one that begins with it, if there is any.
	slices.SortFunc(pairs, func(p, q pair) int { return bytes.Compare(p.b, q.b) })
	for i := range len(pairs) - 1 {
		p, q := pairs[i], pairs[i+1]
		same := codec.Same(p.v, q.v)
		if bytes.Equal(p.b, q.b) != same {
			t.Errorf("%v and %v have the encodings %v and %v", p.v, q.v, short(p.b), short(q.b))
		}
		if !same && bytes.HasPrefix(q.b, p.b) {
			t.Errorf("the encoding of %v begins with that of %v", q.v, p.v)
		}
	}
}

func TestSizeOfLists(t *testing.T) {
	r := rand.New(rand.NewSource(4))
	for _, length := range []int{0, 1, 2, 3, 126, 127, 128, 129, 300, 16383, 16384} {
		v := list()
		want, e := codec.Size(zeros(length))
		zero, f := codec.Size(integer(0))
		if e != api.OK || f != api.OK {
			t.Fatal(e, f)
		}
		want -= length * zero
		for range length {
			x := randomValue(r, 2)
			n, e := codec.Size(x)
			if e != api.OK {
				t.Fatal(x, e)
			}
			v.L, want = append(v.L, x), want+n
		}
		if n, e := codec.Size(v); e != api.OK || n != want {
			t.Errorf("%d elements: got %d, %d; want %d", length, n, e, want)
		}
	}
}

// The rule R2

func TestArgumentsAndResultsKeepTheirValues(t *testing.T) {
	v := list(integer(7), text("abc"), list(list(), text("d")))
	kept := copyOf(v)
	b, _ := codec.Encode(v)
	keptBytes := slices.Clone(b)
	_ = append(b, 9)
	if c, e := codec.Encode(v); e != api.OK || !bytes.Equal(c, keptBytes) || !bytes.Equal(b, keptBytes) {
		t.Errorf("a second Encode: got %v, %d", c, e)
	}
	room := join(b, 1, 2, 3)
	x, e := codec.Decode(room[:len(b)])
	if e != api.OK || !codec.Same(x, kept) || !bytes.Equal(room, join(keptBytes, 1, 2, 3)) {
		t.Errorf("Decode: got %v, %d, and left the bytes %v", x, e, room)
	}
	clear(room)
	if !codec.Same(x, kept) || !codec.Same(v, kept) {
		t.Errorf("a value changes with the bytes that it was read from")
	}
}
