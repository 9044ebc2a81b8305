package seal_test

import (
	"bytes"
	"encoding/hex"
	"math"
	"math/rand"
	"slices"
	"strconv"
	"testing"

	"stopwatch/api"
	"stopwatch/digest"
	"stopwatch/seal"
)

const (
	signedBits  = 64
	longestSeed = 64
)

// pattern returns n bytes, in which no two parts of 64 bytes are equal.
func pattern(n int) []byte {
	b := make([]byte, n)
	for i := range b {
		b[i] = byte(i*7 + i/256)
	}
	return b
}

func text(d api.Digest) string { return hex.EncodeToString(d[:]) }

// sumOf returns the sum of all digests of l, one after the other.
func sumOf(l []api.Digest) string {
	var b []byte
	for _, d := range l {
		b = append(b, d[:]...)
	}
	return text(digest.Sum(b))
}

// numberOf returns bits as hexadecimal digits.
func numberOf(bits []bool) string {
	b := make([]byte, (len(bits)+7)/8)
	for j, bit := range bits {
		if bit {
			b[j/8] |= 128 >> (j % 8)
		}
	}
	return hex.EncodeToString(b)
}

func newKey(t *testing.T, seed []byte, many int) api.Key {
	t.Helper()
	k, e := seal.New(seed, many)
	if e != api.OK {
		t.Fatalf("New(%d bytes, %d): got %d", len(seed), many, e)
	}
	return k
}

func publicKey(t *testing.T, k api.Key) api.Digest {
	t.Helper()
	d, e := seal.Public(k)
	if e != api.OK {
		t.Fatalf("Public of a key with %d bytes, %d, %d: got %d", len(k.Seed), k.Many, k.Used, e)
	}
	return d
}

func signature(t *testing.T, k api.Key, index int, msg []byte) api.Signature {
	t.Helper()
	s, e := seal.Sign(k, index, msg)
	if e != api.OK {
		t.Fatalf("Sign with %d of %d, %d bytes: got %d", index, k.Many, len(msg), e)
	}
	return s
}

func same(a, b api.Signature) bool {
	return a.Index == b.Index && slices.Equal(a.Opened, b.Opened) && slices.Equal(a.Closed, b.Closed) && slices.Equal(a.Path, b.Path)
}

func empty(s api.Signature) bool { return same(s, api.Signature{}) }

func copyOf(s api.Signature) api.Signature {
	return api.Signature{Index: s.Index, Opened: slices.Clone(s.Opened), Closed: slices.Clone(s.Closed), Path: slices.Clone(s.Path)}
}

// The functions that follow are what the chapter says of keys and signatures, word by word.

type hashes [signedBits][2]api.Digest

func bytesOf(i int) []byte { return []byte{byte(i / 256), byte(i % 256)} }

func secretOf(seed []byte, i, j, b int) api.Digest {
	return digest.Tagged("secret", slices.Concat(seed, bytesOf(i), []byte{byte(j), byte(b)}))
}

func hashOf(secret api.Digest) api.Digest { return digest.Tagged("open", secret[:]) }

func hashesOf(seed []byte, i int) (h hashes) {
	for j := range signedBits {
		h[j] = [2]api.Digest{hashOf(secretOf(seed, i, j, 0)), hashOf(secretOf(seed, i, j, 1))}
	}
	return h
}

func oneOf(h hashes) api.Digest {
	var b []byte
	for _, pair := range h {
		b = slices.Concat(b, pair[0][:], pair[1][:])
	}
	return digest.Tagged("one", b)
}

func onesOf(seed []byte, many int) (l []api.Digest) {
	for i := range many {
		l = append(l, oneOf(hashesOf(seed, i)))
	}
	return l
}

func bitsOf(public api.Digest, index int, msg []byte) (l [signedBits]int) {
	d := digest.Tagged("message", slices.Concat(public[:], bytesOf(index), msg))
	for j := range l {
		if d[j/8]&(128>>(j%8)) != 0 {
			l[j] = 1
		}
	}
	return l
}

// signatureOf returns the signature under a public key, with a path that is given.
func signatureOf(seed []byte, public api.Digest, index int, msg []byte, path []api.Digest) api.Signature {
	s := api.Signature{Index: index, Path: path}
	for j, b := range bitsOf(public, index, msg) {
		s.Opened = append(s.Opened, secretOf(seed, index, j, b))
		s.Closed = append(s.Closed, hashOf(secretOf(seed, index, j, 1-b)))
	}
	return s
}

// verifies tells whether a signature with 64 elements each verifies, if the numbers and the message are permitted.
func verifies(public api.Digest, many int, msg []byte, s api.Signature) bool {
	var h hashes
	for j, b := range bitsOf(public, s.Index, msg) {
		h[j][b], h[j][1-b] = hashOf(s.Opened[j]), s.Closed[j]
	}
	d, e := digest.Climb(oneOf(h), s.Index, many, s.Path)
	return e == api.OK && d == public
}

// builtSignature returns a public key of many one-time keys, of which only the one with the index is known, and its signature.
func builtSignature(t *testing.T, many, index int, msg []byte, path []api.Digest) (api.Digest, api.Signature) {
	t.Helper()
	seed := []byte("built")
	public, e := digest.Climb(oneOf(hashesOf(seed, index)), index, many, path)
	if e != api.OK {
		t.Fatalf("%d of %d: no path of %d digests", index, many, len(path))
	}
	return public, signatureOf(seed, public, index, msg, path)
}

// digests returns a list of n digests, all of them different.
func digests(n int) (l []api.Digest) {
	for i := range n {
		l = append(l, digest.Sum([]byte(strconv.Itoa(i))))
	}
	return l
}

func invalidKeys() []api.Key {
	seed := []byte("seed")
	return []api.Key{
		{}, {Seed: seed}, {Many: 1}, {Seed: []byte{}, Many: 1},
		{Seed: pattern(longestSeed + 1), Many: 1}, {Seed: pattern(1000), Many: 1},
		{Seed: seed, Many: -1}, {Seed: seed, Many: math.MinInt},
		{Seed: seed, Many: api.MaxKeys + 1}, {Seed: seed, Many: 65537}, {Seed: seed, Many: math.MaxInt},
		{Seed: seed, Many: 2, Used: -1}, {Seed: seed, Many: 2, Used: 3}, {Seed: seed, Many: 1, Used: 2},
		{Seed: seed, Many: 2, Used: math.MinInt}, {Seed: seed, Many: 2, Used: math.MaxInt},
		{Seed: seed, Many: -1, Used: -1}, {Seed: seed, Used: 1}, {Seed: seed, Many: -3, Used: -4},
		{Seed: seed, Many: api.MaxKeys + 1, Used: api.MaxKeys + 1},
	}
}

// P4.1

func TestNew(t *testing.T) {
	for _, n := range []int{1, 2, 63, longestSeed} {
		for _, many := range []int{1, 2, 100, api.MaxKeys - 1, api.MaxKeys} {
			k, e := seal.New(pattern(n), many)
			if e != api.OK || !bytes.Equal(k.Seed, pattern(n)) || k.Many != many || k.Used != 0 {
				t.Errorf("New(%d bytes, %d): got %v, %d", n, many, k, e)
			}
		}
	}
	for _, x := range []struct{ n, many int }{
		{0, 1}, {0, 0}, {longestSeed + 1, 1}, {128, 1}, {1000, api.MaxKeys},
		{1, 0}, {1, -1}, {1, api.MaxKeys + 1}, {1, 65536}, {1, math.MaxInt}, {1, math.MinInt}, {longestSeed + 1, api.MaxKeys + 1},
	} {
		k, e := seal.New(pattern(x.n), x.many)
		if e != api.ErrKey || len(k.Seed) > 0 || k.Many != 0 || k.Used != 0 {
			t.Errorf("New(%d bytes, %d): got %v, %d", x.n, x.many, k, e)
		}
	}
	if _, e := seal.New(nil, 1); e != api.ErrKey {
		t.Errorf("New without bytes: got %d", e)
	}
}

// The values of this test and of those of Bits and Sign were computed by another implementation of the chapter, with another one of BLAKE2s-256.
func TestPublic(t *testing.T) {
	for _, x := range []struct {
		seed []byte
		many int
		want string
	}{
		{[]byte("seed"), 1, "da664ad206937b25c36a54057f456e825ff29953b0b3af8c326e9335c7a03158"},
		{[]byte("seed"), 2, "a948f797b4bed767a54a13e71dcc469c3c836b0b02da7d0b6b5e1e97e29d146c"},
		{[]byte("seed"), 3, "510bacd342f6a9efbf379ae1c1b3e88c8fc6deb722d98173f21bc038904eb574"},
		{[]byte("seed"), 5, "68ede0775e9ecff54256b85f2313942bb59832b8bc7975d5ae20c61f4b5453dd"},
		{[]byte("seed"), 8, "be1e1b1aa7a9046f97c33686630ec0110a4a10ed0d426f90752a87fb787fee4b"},
		{[]byte{0}, 1, "9a822290d2eeef52347c05579fd45e943b747517fb384c1eb054ef7a0b8ec179"},
		{[]byte{0, 0}, 1, "7bdb15b006edee033c10fd7585e1558e13f3b0e65b67112c23cf3d815c64748a"},
		{pattern(63), 7, "2c3104c9a8369fba63da4db993a73a7624101b0ed596b7b21a3ba156d47ea50f"},
		{pattern(64), 100, "cad1fcd44ebe28b6509af26836bb72e655a3ab3992f891c0bae9d2106ca348a5"},
		{pattern(64), 300, "fb27876f763e0b96b33e07cddfe53937f86bda83d0e710f1e72abf31f5e2e916"},
		{pattern(64), 4096, "bd17798faa858089ec8a4314a671da7c30400289bc88d4a576cd1afbaa827dcd"},
	} {
		if d := publicKey(t, newKey(t, x.seed, x.many)); text(d) != x.want {
			t.Errorf("%d bytes, %d: got %s, want %s", len(x.seed), x.many, text(d), x.want)
		}
	}
}

func TestPublicIsTreeOfOneTimeKeys(t *testing.T) {
	ones := onesOf([]byte("seed"), 20)
	for n := 1; n <= len(ones); n++ {
		if d := publicKey(t, newKey(t, []byte("seed"), n)); d != digest.Tree(ones[:n]) {
			t.Errorf("%d one-time keys: got %s", n, text(d))
		}
	}
}

func TestPublicOfKeysThatAreNotValid(t *testing.T) {
	for i, k := range invalidKeys() {
		if d, e := seal.Public(k); e != api.ErrKey || d != (api.Digest{}) {
			t.Errorf("the key %d: got %s, %d", i, text(d), e)
		}
	}
}

func TestBits(t *testing.T) {
	var public api.Digest
	copy(public[:], "\x00\x01\x02\x03\x04\x05\x06\x07\x08\x09\x0a\x0b\x0c\x0d\x0e\x0f\x10\x11\x12\x13\x14\x15\x16\x17\x18\x19\x1a\x1b\x1c\x1d\x1e\x1f")
	for _, x := range []struct {
		index int
		msg   []byte
		want  string
	}{
		{0, nil, "d00319390f9f1129"},
		{0, []byte("m"), "36698f861a938cc4"},
		{0, pattern(65537), "25fe32dd51c02bb5"},
		{1, nil, "248f050415c9eb64"},
		{1, []byte("m"), "7b508db2db923ee0"},
		{1, pattern(65537), "edb9fa554a48b20a"},
		{255, nil, "e1fa3fa247818306"},
		{255, []byte("m"), "80d28ce1acf4366c"},
		{256, nil, "93bd671568b1991d"},
		{256, []byte("m"), "55490c6e6d04acc7"},
		{257, nil, "3b2f5c2fa0313382"},
		{257, []byte("m"), "e7765d09de7c4c0f"},
		{4095, nil, "901c5581b4e90444"},
		{4095, []byte("m"), "0d2c48f0d7348942"},
		{4095, pattern(65537), "7b12a77b11a76cc1"},
	} {
		l := seal.Bits(public, x.index, x.msg)
		if len(l) != signedBits || numberOf(l) != x.want {
			t.Errorf("the index %d, %d bytes: got %d bits, %s, want %s", x.index, len(x.msg), len(l), numberOf(l), x.want)
		}
	}
}

func TestBitsOfAlteredArguments(t *testing.T) {
	public, msg := digest.Sum([]byte("public")), pattern(9)
	met := map[string]bool{numberOf(seal.Bits(public, 0, msg)): true}
	many := 1
	meet := func(public api.Digest, index int, msg []byte) {
		met[numberOf(seal.Bits(public, index, msg))] = true
		many++
	}
	for i := range 8 * len(public) {
		altered := public
		altered[i/8] ^= 1 << (i % 8)
		meet(altered, 0, msg)
	}
	for index := 1; index < api.MaxKeys; index++ {
		meet(public, index, msg)
	}
	for i := range 8 * len(msg) {
		altered := slices.Clone(msg)
		altered[i/8] ^= 1 << (i % 8)
		meet(public, 0, altered)
	}
	for n := range len(msg) {
		meet(public, 0, msg[:n])
	}
	if len(met) != many {
		t.Errorf("got %d lists of bits, want %d", len(met), many)
	}
}

func TestBitsOfIndicesThatAreNotPermitted(t *testing.T) {
	for _, index := range []int{-1, -2, api.MaxKeys, api.MaxKeys + 1, 65535, 65536, 1 << 32, math.MinInt, math.MaxInt} {
		if l := seal.Bits(api.Digest{1}, index, []byte("m")); len(l) != 0 {
			t.Errorf("the index %d: got %d bits", index, len(l))
		}
	}
}

// P4.2

func TestSign(t *testing.T) {
	for _, x := range []struct {
		seed                 []byte
		many, index          int
		msg                  []byte
		length               int
		opened, closed, path string
	}{
		{[]byte("seed"), 1, 0, nil, 0,
			"70718c3549f33aba2f51f96cb0ed31b6f5ff22cc1b8c10e4f7a1eba57598b975",
			"2a579412624fd6423ba80b4e52d6e276fa4739cac0dfe322af64d1539f0a2bcc",
			"69217a3079908094e11121d042354a7c1f55b6482ca1a51e1b250dfd1ed0eef9"},
		{[]byte("seed"), 3, 2, []byte("m"), 1,
			"ef18621e67e0071d5c89a349753701edded9ee75429c8f0f843d264ce356fe2d",
			"2e8c5363f1b263adcfb7cbd0474a096630b2c4c1705b385a6bea097a7383d302",
			"649b2b67f1be91097451065b8b0b3a20215427c3fc4846d4fbcb41e45d18905d"},
		{[]byte("seed"), 5, 0, pattern(100), 3,
			"6f75b4b4e082028fa23fee5fb8d612cfadde21e4661e9920388b0869805cd37f",
			"0aae61107ad05d4525692e4d9a540722b29e257157b70ca8d71a4eea0cd4b3e1",
			"634254f178399ef6820b6974eb3c13c88e95a1a1679e6b19b476ccc27194dbc3"},
		{pattern(64), 300, 256, []byte("m"), 7,
			"6cfee3a44b2de5b75a52b5245b0350be2ba16849663cd09adabd1b6799fad808",
			"e49300ef5e84e5014e6a14e838f70dd02b562d6f7876716c139b030b18c6c1ce",
			"742f559d513388a353f7f585466990d89849f413a15be34404d4b4d66710fb13"},
		{pattern(64), 300, 299, pattern(65536), 5,
			"cde372baf23a05ecb84d161960e87ee4b12d823625e1e11c4f96693fec99cb8b",
			"eb5cae7479de5a7810c96cd46e5cea3c2519270b09f52f0137157c33149a2152",
			"69d573d0d916dcb05ae078ec88d1400ab90c0c9ea66749c059c66980f86d548c"},
	} {
		s := signature(t, newKey(t, x.seed, x.many), x.index, x.msg)
		if s.Index != x.index || len(s.Opened) != signedBits || len(s.Closed) != signedBits || len(s.Path) != x.length {
			t.Errorf("%d of %d: got the index %d, %d, %d and %d digests", x.index, x.many, s.Index, len(s.Opened), len(s.Closed), len(s.Path))
		}
		if sumOf(s.Opened) != x.opened || sumOf(s.Closed) != x.closed || sumOf(s.Path) != x.path {
			t.Errorf("%d of %d: got %s, %s, %s", x.index, x.many, sumOf(s.Opened), sumOf(s.Closed), sumOf(s.Path))
		}
	}
}

func TestSignAsDescribed(t *testing.T) {
	seed, n := pattern(longestSeed), 11
	ones := onesOf(seed, n)
	for many := 1; many <= n; many++ {
		k := newKey(t, seed, many)
		public := digest.Tree(ones[:many])
		for index := range many {
			msg := pattern(13*many + index)
			path, e := digest.Path(ones[:many], index)
			if s := signature(t, k, index, msg); e != api.OK || !same(s, signatureOf(seed, public, index, msg, path)) {
				t.Errorf("%d of %d: got another signature", index, many)
			}
		}
	}
}

func TestUsedHasNoEffectOnSign(t *testing.T) {
	k := newKey(t, []byte("seed"), 4)
	for index := range k.Many {
		want := signature(t, k, index, []byte("m"))
		for used := range k.Many + 1 {
			other := api.Key{Seed: k.Seed, Many: k.Many, Used: used}
			if s := signature(t, other, index, []byte("m")); !same(s, want) {
				t.Errorf("%d, used %d: got another signature", index, used)
			}
		}
	}
}

func expectNoSignature(t *testing.T, what string, k api.Key, index int, msg []byte, want api.Errno) {
	t.Helper()
	if s, e := seal.Sign(k, index, msg); e != want || !empty(s) {
		t.Errorf("%s: %d of %d, %d bytes: got %d digests, %d, want %d", what, index, k.Many, len(msg), len(s.Opened), e, want)
	}
}

func TestErrorsOfSign(t *testing.T) {
	longest, tooLong := make([]byte, api.MaxSource), make([]byte, api.MaxSource+1)
	for i, k := range invalidKeys() {
		for _, index := range []int{0, -1, k.Many} {
			for _, msg := range [][]byte{nil, tooLong} {
				expectNoSignature(t, "the key "+strconv.Itoa(i), k, index, msg, api.ErrKey)
			}
		}
	}
	for _, many := range []int{1, 2, 3, 8} {
		k := newKey(t, []byte("seed"), many)
		for _, index := range []int{-1, -many, many, many + 1, 65536, math.MinInt, math.MaxInt} {
			expectNoSignature(t, "an index that is not permitted", k, index, nil, api.ErrKey)
			expectNoSignature(t, "an index that is not permitted", k, index, longest, api.ErrKey)
			expectNoSignature(t, "a long message, an index that is not permitted", k, index, tooLong, api.ErrLimit)
		}
		for index := range many {
			expectNoSignature(t, "a long message", k, index, tooLong, api.ErrLimit)
			signature(t, k, index, longest)
		}
	}
}

// P4.3

func expectVerify(t *testing.T, what string, public api.Digest, many int, msg []byte, s api.Signature, want bool) {
	t.Helper()
	if ok := seal.Verify(public, many, msg, s); ok != want {
		t.Errorf("%s: %d of %d, %d bytes: got %t", what, s.Index, many, len(msg), ok)
	}
}

func TestVerify(t *testing.T) {
	public, s := builtSignature(t, 7, 5, []byte("m"), digests(3))
	expectVerify(t, "a signature", public, 7, []byte("m"), s, true)
	expectVerify(t, "another message", public, 7, []byte("n"), s, false)
	expectVerify(t, "a longer message", public, 7, []byte("m\x00"), s, false)
	expectVerify(t, "no message", public, 7, nil, s, false)
	for i := range 8 * len(public) {
		altered := public
		altered[i/8] ^= 1 << (i % 8)
		expectVerify(t, "another public key", altered, 7, []byte("m"), s, false)
	}
	expectVerify(t, "no public key", api.Digest{}, 7, []byte("m"), s, false)
	expectVerify(t, "no signature", public, 7, []byte("m"), api.Signature{}, false)
}

func TestVerifyOfAlteredElements(t *testing.T) {
	seed, msg := []byte("seed"), []byte("m")
	k := newKey(t, seed, 6)
	public := publicKey(t, k)
	s := signature(t, k, 3, msg)
	for j, b := range bitsOf(public, 3, msg) {
		for _, i := range []int{0, 100, 255} {
			x := copyOf(s)
			x.Opened[j][i/8] ^= 1 << (i % 8)
			expectVerify(t, "another secret", public, 6, msg, x, false)
			x = copyOf(s)
			x.Closed[j][i/8] ^= 1 << (i % 8)
			expectVerify(t, "another hash", public, 6, msg, x, false)
		}
		x := copyOf(s)
		x.Opened[j], x.Closed[j] = secretOf(seed, 3, j, 1-b), hashOf(s.Opened[j])
		expectVerify(t, "the secret of the other bit", public, 6, msg, x, false)
		x = copyOf(s)
		x.Opened[j], x.Closed[j] = x.Closed[j], x.Opened[j]
		expectVerify(t, "a secret in the place of the hash", public, 6, msg, x, false)
		x = copyOf(s)
		x.Opened[j] = hashOf(x.Opened[j])
		expectVerify(t, "a hash in the place of the secret", public, 6, msg, x, false)
	}
	for i := range s.Path {
		x := copyOf(s)
		x.Path[i][31] ^= 128
		expectVerify(t, "another path", public, 6, msg, x, false)
	}
	x := copyOf(s)
	slices.Reverse(x.Path)
	expectVerify(t, "a path in another order", public, 6, msg, x, false)
}

func TestVerifyOfOtherLengths(t *testing.T) {
	public, s := builtSignature(t, 7, 5, []byte("m"), digests(3))
	for _, n := range []int{0, 1, 32, 63, 65, 128} {
		opened, closed := resized(s.Opened, n), resized(s.Closed, n)
		for _, x := range []api.Signature{
			{Index: 5, Opened: opened, Closed: s.Closed, Path: s.Path},
			{Index: 5, Opened: s.Opened, Closed: closed, Path: s.Path},
			{Index: 5, Opened: opened, Closed: closed, Path: s.Path},
		} {
			expectVerify(t, strconv.Itoa(n)+" elements", public, 7, []byte("m"), x, false)
		}
	}
	for _, n := range []int{0, 1, 2, 4, 5, 100} {
		x := copyOf(s)
		x.Path = resized(s.Path, n)
		expectVerify(t, "a path of "+strconv.Itoa(n), public, 7, []byte("m"), x, false)
		expectVerify(t, "no public key, a path of "+strconv.Itoa(n), api.Digest{}, 7, []byte("m"), x, false)
	}
}

// resized returns the first n elements of l, or l and further ones.
func resized(l []api.Digest, n int) []api.Digest {
	l = slices.Clone(l)
	for len(l) < n {
		l = append(l, api.Digest{})
	}
	return l[:n]
}

func TestVerifyWithNumbersThatAreNotPermitted(t *testing.T) {
	public, s := builtSignature(t, 7, 5, []byte("m"), digests(3))
	for _, many := range []int{0, -1, -7, 1, 4, 5, api.MaxKeys + 1, 65536, 1 << 40, math.MinInt, math.MaxInt} {
		expectVerify(t, "another number of signatures", public, many, []byte("m"), s, false)
	}
	for _, index := range []int{-1, 0, 4, 6, 7, 8, 5 + 65536, api.MaxKeys, math.MinInt, math.MaxInt} {
		x := copyOf(s)
		x.Index = index
		for _, many := range []int{-1, 0, 1, 7, api.MaxKeys, api.MaxKeys + 1, math.MinInt, math.MaxInt} {
			expectVerify(t, "another index", public, many, []byte("m"), x, false)
		}
	}
}

// TestVerifyAtTheLimits has signatures that nothing but a limit keeps from verifying.
func TestVerifyAtTheLimits(t *testing.T) {
	path := digests(13)
	for _, x := range []struct {
		many, index, length int
		ok                  bool
	}{
		{1, 0, 0, true},
		{2, 0, 1, true}, {2, 1, 1, true},
		{3, 2, 1, true},
		{api.MaxKeys - 1, 0, 12, true}, {api.MaxKeys - 1, api.MaxKeys - 2, 11, true},
		{api.MaxKeys, 0, 12, true}, {api.MaxKeys, 256, 12, true}, {api.MaxKeys, api.MaxKeys - 1, 12, true},
		{api.MaxKeys + 1, 0, 13, false}, {api.MaxKeys + 1, api.MaxKeys - 1, 13, false}, {api.MaxKeys + 1, api.MaxKeys, 1, false},
		{2 * api.MaxKeys, 1, 13, false}, {2 * api.MaxKeys, 2*api.MaxKeys - 1, 13, false},
	} {
		public, s := builtSignature(t, x.many, x.index, []byte("m"), path[:x.length])
		expectVerify(t, "a great list", public, x.many, []byte("m"), s, x.ok)
	}
	for _, x := range []struct {
		n  int
		ok bool
	}{{0, true}, {api.MaxSource - 1, true}, {api.MaxSource, true}, {api.MaxSource + 1, false}, {2 * api.MaxSource, false}} {
		msg := pattern(x.n)
		public, s := builtSignature(t, 3, 1, msg, path[:2])
		expectVerify(t, "a long message", public, 3, msg, s, x.ok)
	}
}

// TestVerifyWithOtherNumbers has numbers for which the path has the same meaning, so that the signature verifies, and others.
func TestVerifyWithOtherNumbers(t *testing.T) {
	msg, met := []byte("m"), 0
	for many := 1; many <= 9; many++ {
		k := newKey(t, []byte("seed"), many)
		public := publicKey(t, k)
		for index := range many {
			s := signature(t, k, index, msg)
			for other := 1; other <= 20; other++ {
				want := index < other && verifies(public, other, msg, s)
				expectVerify(t, "a key of "+strconv.Itoa(many), public, other, msg, s, want)
				if want && other != many {
					met++
				}
			}
		}
	}
	if met == 0 {
		t.Error("no signature verifies with another number")
	}
}

// P4.4

func TestSignaturesVerify(t *testing.T) {
	r := rand.New(rand.NewSource(1))
	for range 60 {
		seed, many := pattern(1+r.Intn(longestSeed)), 1+r.Intn(40)
		r.Read(seed)
		k := newKey(t, seed, many)
		public := publicKey(t, k)
		for range 5 {
			index, msg := r.Intn(many), make([]byte, r.Intn(300))
			r.Read(msg)
			expectVerify(t, "its own signature", public, many, msg, signature(t, k, index, msg), true)
		}
	}
}

func TestSignaturesOfGreatestKeyVerify(t *testing.T) {
	k := newKey(t, []byte("seed"), api.MaxKeys)
	public := publicKey(t, k)
	for _, index := range []int{0, 256, api.MaxKeys - 1} {
		s := signature(t, k, index, pattern(api.MaxSource))
		expectVerify(t, "its own signature", public, api.MaxKeys, pattern(api.MaxSource), s, true)
	}
}

func TestPublicDoesNotDependOnUsed(t *testing.T) {
	for _, many := range []int{1, 2, 7} {
		k := newKey(t, []byte("seed"), many)
		want := publicKey(t, k)
		for used := range many + 1 {
			if d := publicKey(t, api.Key{Seed: k.Seed, Many: many, Used: used}); d != want {
				t.Errorf("%d of %d used: got another public key", used, many)
			}
		}
	}
}

func TestPublicKeysDiffer(t *testing.T) {
	met, keys := map[api.Digest]bool{}, 0
	for many := 1; many <= 5; many++ {
		for n := 1; n <= longestSeed; n++ {
			for _, seed := range [][]byte{pattern(n), make([]byte, n)} {
				met[publicKey(t, newKey(t, seed, many))] = true
				keys++
			}
		}
	}
	// pattern(1) is one byte 0, so that both seeds of one byte are equal.
	if len(met) != keys-5 {
		t.Errorf("got %d public keys of %d", len(met), keys-5)
	}
}

// The two messages were found by a search outside of the tests, through some 5 billion messages.
func TestMessagesWithTheSameBits(t *testing.T) {
	a, b := []byte("\xdb\xc8\x04\x40\x41\x3b\xc8\xee"), []byte("\x26\x50\xb2\xe7\xf3\x0c\x89\x70")
	k := newKey(t, []byte("seed"), 2)
	public := publicKey(t, k)
	if x, y := numberOf(seal.Bits(public, 1, a)), numberOf(seal.Bits(public, 1, b)); x != "af10326945e18b91" || y != x {
		t.Fatalf("got the bits %s and %s", x, y)
	}
	s := signature(t, k, 1, a)
	if !same(s, signature(t, k, 1, b)) {
		t.Error("the messages have different signatures")
	}
	expectVerify(t, "the first message", public, 2, a, s, true)
	expectVerify(t, "the second message", public, 2, b, s, true)
	if same(signature(t, k, 0, a), signature(t, k, 0, b)) {
		t.Error("the messages have the same signature with another index, with which their bits differ")
	}
}

func TestMessagesWithDifferentBits(t *testing.T) {
	seed, index := []byte("seed"), 2
	k := newKey(t, seed, 3)
	public := publicKey(t, k)
	var all []api.Signature
	for i := range 30 {
		all = append(all, signature(t, k, index, pattern(i)))
	}
	for x, a := range all {
		for y, b := range all[:x] {
			bitsA, bitsB := seal.Bits(public, index, pattern(x)), seal.Bits(public, index, pattern(y))
			pairs := 0
			for j := range signedBits {
				if bitsA[j] == bitsB[j] {
					continue
				}
				both := [2]api.Digest{a.Opened[j], b.Opened[j]}
				if bitsA[j] {
					both[0], both[1] = both[1], both[0]
				}
				if both != [2]api.Digest{secretOf(seed, index, j, 0), secretOf(seed, index, j, 1)} {
					t.Errorf("%d and %d do not open both secrets of the bit %d", x, y, j)
				}
				pairs++
			}
			if pairs == 0 {
				t.Errorf("%d and %d have the same bits", x, y)
			}
			expectVerify(t, "the signature of another message", public, 3, pattern(y), a, false)
		}
	}
}

// The chapter's examples

func TestExamples(t *testing.T) {
	for i, x := range []struct{ n, many int }{{0, 1}, {longestSeed + 1, 1}, {4, api.MaxKeys + 1}} {
		if _, e := seal.New(pattern(x.n), x.many); e != api.ErrKey {
			t.Errorf("New %d: got %d", i, e)
		}
	}
	if len(seal.Bits(api.Digest{}, -1, nil)) != 0 {
		t.Error("there are bits with the index -1")
	}
	expectNoSignature(t, "a key with Many 1", newKey(t, []byte("seed"), 1), 1, nil, api.ErrKey)
	k := newKey(t, []byte("seed"), 2)
	public := publicKey(t, k)
	for index := range 2 {
		s := signature(t, k, index, []byte("m"))
		expectVerify(t, "a key with Many 2", public, 2, []byte("m"), s, true)
		expectVerify(t, "Many 0", public, 0, []byte("m"), s, false)
		s.Opened = nil
		expectVerify(t, "without Opened", public, 2, []byte("m"), s, false)
	}
}

// The rules R2 and R3

func TestArgumentsAndResultsKeepTheirValues(t *testing.T) {
	room := pattern(200)
	k := newKey(t, room[:40], 3)
	public := publicKey(t, k)
	s := signature(t, k, 1, room[100:150])
	kept := copyOf(s)
	bits := seal.Bits(public, 1, room[100:150])
	keptBits := slices.Clone(bits)
	for index := range 3 {
		other := signature(t, k, index, room[100:150])
		expectVerify(t, "another signature", public, 3, room[100:150], other, true)
		seal.Bits(public, index, room[100:150])
	}
	expectVerify(t, "a signature", public, 3, room[100:150], s, true)
	if !bytes.Equal(room, pattern(200)) || !bytes.Equal(k.Seed, pattern(40)) || k.Many != 3 || k.Used != 0 {
		t.Error("an argument is altered")
	}
	if !same(s, kept) || !slices.Equal(bits, keptBits) {
		t.Error("a result is altered")
	}
}

func TestEmptySlicesAreEqual(t *testing.T) {
	if _, e := seal.New([]byte{}, 1); e != api.ErrKey {
		t.Errorf("a seed without bytes: got %d", e)
	}
	k := newKey(t, []byte("seed"), 1)
	public := publicKey(t, k)
	s := signature(t, k, 0, nil)
	if !same(s, signature(t, k, 0, []byte{})) || !slices.Equal(seal.Bits(public, 0, nil), seal.Bits(public, 0, []byte{})) {
		t.Error("no message and an empty one differ")
	}
	for _, path := range [][]api.Digest{nil, {}} {
		for _, msg := range [][]byte{nil, {}} {
			s.Path = path
			expectVerify(t, "an empty message and an empty path", public, 1, msg, s, true)
		}
	}
}
