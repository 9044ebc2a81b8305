package digest_test

import (
	"bytes"
	"encoding/hex"
	"math"
	"math/rand"
	"slices"
	"strconv"
	"strings"
	"testing"

	"stopwatch/api"
	"stopwatch/digest"
)

const mostElements = 1 << 40 // of a list whose digest Climb returns

// pattern returns n bytes, in which no two blocks are equal.
func pattern(n int) []byte {
	b := make([]byte, n)
	for i := range b {
		b[i] = byte(i*7 + i/256)
	}
	return b
}

// elements returns a list of n digests, all of them different.
func elements(n int) []api.Digest {
	l := make([]api.Digest, n)
	for i := range l {
		l[i] = digest.Sum([]byte(strconv.Itoa(i)))
	}
	return l
}

func text(d api.Digest) string { return hex.EncodeToString(d[:]) }

func expect(t *testing.T, what string, got api.Digest, want string) {
	t.Helper()
	if text(got) != want {
		t.Errorf("%s: got %s, want %s", what, text(got), want)
	}
}

// The functions that follow are what the chapter says of lists, word by word.

func leafOf(d api.Digest) api.Digest { return digest.Tagged("leaf", d[:]) }

func nodeOf(a, b api.Digest) api.Digest { return digest.Tagged("node", slices.Concat(a[:], b[:])) }

// partOf returns the greatest power of 2 less than n.
func partOf(n int) int {
	k := 1
	for 2*k < n {
		k *= 2
	}
	return k
}

func treeOf(l []api.Digest) api.Digest {
	if len(l) == 0 {
		return digest.Tagged("empty", nil)
	}
	if len(l) == 1 {
		return leafOf(l[0])
	}
	k := partOf(len(l))
	return nodeOf(treeOf(l[:k]), treeOf(l[k:]))
}

func pathOf(l []api.Digest, at int) []api.Digest {
	if len(l) == 1 {
		return nil
	}
	k := partOf(len(l))
	if at < k {
		return append(pathOf(l[:k], at), treeOf(l[k:]))
	}
	return append(pathOf(l[k:], at-k), treeOf(l[:k]))
}

// lengthOf returns the number of elements of the path of the element with the index at among n.
func lengthOf(at, n int) int {
	if n == 1 {
		return 0
	}
	k := partOf(n)
	if at < k {
		return lengthOf(at, k) + 1
	}
	return lengthOf(at-k, n-k) + 1
}

// climbOf returns what follows for the digest of a list of n elements, for a path of the right length.
func climbOf(d api.Digest, at, n int, p []api.Digest) api.Digest {
	if n == 1 {
		return leafOf(d)
	}
	k, rest, other := partOf(n), p[:len(p)-1], p[len(p)-1]
	if at < k {
		return nodeOf(climbOf(d, at, k, rest), other)
	}
	return nodeOf(other, climbOf(d, at-k, n-k, rest))
}

func expectClimb(t *testing.T, what string, d api.Digest, at, n int, p []api.Digest, want api.Digest) {
	t.Helper()
	x, e := digest.Climb(d, at, n, p)
	if e != api.OK || x != want {
		t.Errorf("%s: Climb(%d of %d, %d digests): got %s, %d; want %s", what, at, n, len(p), text(x), e, text(want))
	}
}

func expectNoClimb(t *testing.T, what string, at, n int, p []api.Digest) {
	t.Helper()
	x, e := digest.Climb(api.Digest{1}, at, n, p)
	if e != api.ErrArg || x != (api.Digest{}) {
		t.Errorf("%s: Climb(%d of %d, %d digests): got %s, %d", what, at, n, len(p), text(x), e)
	}
}

// P3.1

// The digests of this test and of the next ones were computed by another implementation of BLAKE2s-256.
func TestSum(t *testing.T) {
	for _, x := range []struct {
		n    int
		want string
	}{
		{0, "69217a3079908094e11121d042354a7c1f55b6482ca1a51e1b250dfd1ed0eef9"},
		{1, "e34d74dbaf4ff4c6abd871cc220451d2ea2648846c7757fbaac82fe51ad64bea"},
		{2, "df8773bf65fc77cbf8cb3e56fe093cc3e74c1552a0874e371b899d5669315804"},
		{3, "bdc03378e3c4d48479bf451277980fc8ee1b10ba7ab1fee16685e14901d05faa"},
		{4, "f6acb73571ed1089a61ed8610a58e6a861380a4771dbad60323a8438fee8f2a8"},
		{31, "1910bb50d0bf0213745bd5c9dab1cfe2f4f0c47e79857ea5bba6135239f86e46"},
		{32, "eaf2b39e16c5391c3f125ebb0cd420b375cc23b0559619b13b3af340a555583f"},
		{33, "b8b8a436ea5a34a426c4b4b9708b8b63bdeba7e8c2ab3e9e82e80f7136054e20"},
		{63, "8711b32e3542deae1acce6409fec6577d9ca7daf80e1dcb5534236beea38e6b3"},
		{64, "b09537398e20f8cd56dca19d34b4b467633721bef880f40f2f707ebffd097551"},
		{65, "8936ffcf32a157440820fc06674e4682f76fe78fa7184bfad264c2f6eff6a151"},
		{127, "e75dc97ed5109a0511a064ffecc29b07676d5532ab9d1455aa18ec998a3020e6"},
		{128, "9462ab46c9c7779556af81a31d87fe184e631d5e4836bbda5998669d86a6544b"},
		{129, "9f8fd169776b12dcccd43b31edd795c1542759f975cc5842e88355a96c38234b"},
		{191, "1b483a880c5e83ae34a33ab27b6d17a892ae05736e52605f2c1bfca1bab6c6fd"},
		{192, "9e9df5b4984de5caa1fc5f183091276dd86618c00bff43e500c9173d4a75c1f6"},
		{193, "7b7b357fa58dfaf8e50764f39c03e8f512c9971649279ee1764f3814a0fcfc40"},
		{255, "b67826c0dce186d31d57ecd0c72c8495f136a208952c9752394af8097d220b60"},
		{256, "d20b5a775a7ab1383e5243d0b1b19da1d4371923c9834829f53f2795ed960bb1"},
		{257, "1c2f6da464f7554a5bae137625b5a21dbea0ae5142a9a24fb15cdc5ffbc227b4"},
		{1000, "175c4c73ef0580223c314829fceae6f0e20f5555bdba864dc4afe984af1e10da"},
		{4096, "2803b7785dca35e65f6efa15e4cdec8534421ecedcf8f0dedd289f1175fe3205"},
		{65537, "136dcafb5eb30ff7ce5dedb36ff9ba16c55b7b86d1b4f63acf0e70996325a2e5"},
		{1048576, "10bc0827c7e7acf6778de80505c8955fc87fce2d1774491172b34899b6e65b3f"},
	} {
		expect(t, strconv.Itoa(x.n)+" bytes", digest.Sum(pattern(x.n)), x.want)
	}
	expect(t, "nil", digest.Sum(nil), "69217a3079908094e11121d042354a7c1f55b6482ca1a51e1b250dfd1ed0eef9")
	expect(t, "abc", digest.Sum([]byte("abc")), "508c5e8c327c14e2e1a72ba34eeb452f37458b209ed63a294d999b4c86675982")
}

// TestSumOfAllLengths sums the sums of all lengths of up to 16 blocks.
func TestSumOfAllLengths(t *testing.T) {
	var sums []byte
	for n := range 1025 {
		d := digest.Sum(pattern(n))
		sums = append(sums, d[:]...)
	}
	expect(t, "all lengths", digest.Sum(sums), "320b036c6eb652d0fb72bbfe534fa1f6808aabf83a0488dc2767a89b6ac7c817")
}

// TestSumOfFilledBlocks tells bytes apart that are equal once their last block is filled up.
func TestSumOfFilledBlocks(t *testing.T) {
	met := map[api.Digest]int{}
	for n := range 300 {
		d := digest.Sum(make([]byte, n))
		if other, ok := met[d]; ok {
			t.Errorf("%d and %d bytes 0 have one sum", n, other)
		}
		met[d] = n
	}
}

func TestSumOfAlteredBits(t *testing.T) {
	for _, n := range []int{1, 63, 64, 65, 130} {
		b := pattern(n)
		met := map[api.Digest]bool{digest.Sum(b): true}
		for bit := range 8 * n {
			b[bit/8] ^= 1 << (bit % 8)
			met[digest.Sum(b)] = true
			b[bit/8] ^= 1 << (bit % 8)
		}
		if len(met) != 8*n+1 {
			t.Errorf("%d bytes: %d sums of %d", n, len(met), 8*n+1)
		}
	}
}

func TestTagged(t *testing.T) {
	for _, x := range []struct {
		tag  string
		n    int
		want string
	}{
		{"", 0, "ebaa6baccfe90474750a4dd6b4dc2ef0cf3ab8464a79b2308ab3abfa919779c2"},
		{"x", 0, "4ff2ad8bf929fda3335239c1e120e5f5d927bfe1d29ceaf241efa5d6bd5b8110"},
		{"x", 1, "474037e0f3e100cb5db990cd068ae9bc0a959059a1bc34afbb26782f11742aeb"},
		{"x", 31, "2a61be7286a8a9b85aae2b33baa10c92c07dfe2248a763bf21db728f3f923a88"},
		{"x", 32, "b22ee81fd1b5e4aa485aff6c027a8528355b9c5bf02d14990a8bf02d4be738e2"},
		{"x", 33, "b597191e43968a23b77357eaba8b09cf61acb8853b3112136eff5726d55cfbe3"},
		{"x", 95, "1c4c87ec14ef9dcc139cc5b99f9e1df3bc6f71632f005adadfc0608c2f54336c"},
		{"x", 96, "4ec9071e62404906a349e691ee93e581869c490b2294e3d6acd1e59210abad5d"},
		{"x", 97, "f3bb7b420cb4ba8d037a96bd92c22b526b4e3721b80ca49c837b25e5156f2641"},
		{"empty", 0, "cce8c1a422b3ec97c38b4e959cf397695b6aab05788ba85975c59328abb54daa"},
		{"leaf", 32, "fb22dfd339c300a550d5721c80ee891b614be6da65f461b42af3e555b5e25d8f"},
		{"node", 64, "312814f9a325c80bf827d059363991ef59ccfe9aae012ee8f974d4b3c99c8b9b"},
		{"Leaf", 32, "ec494e8747faf2eed449c7c287c1717eb5c0509e8cd8aa641631e410a70a0d51"},
		{"\xff\x00", 5, "7dbe185ce4c0a1cf28d4c1e06162d8a0ac78f56900245a490621468455ee011d"},
		{"m\xc3\xa4t", 5, "d9ea5abb491528e20c0cc4a40b08671ad790898fd814b2955422ad5468a80e36"},
		{strings.Repeat("a", 64), 7, "bec8ad18dc2058b184f74d02f8524c78156eb212bbd794ebabb575a093d3baac"},
		{strings.Repeat("a", 65), 7, "c4814f47bdd443427b6812e8061f838b924634624b857b9df257aa64ff7e4120"},
		{"x", 100000, "3f120c905c253e56380e68807922324ac819aee3e47aee14540f07d314d244aa"},
	} {
		expect(t, "the tag "+strconv.Quote(x.tag)+" and "+strconv.Itoa(x.n)+" bytes", digest.Tagged(x.tag, pattern(x.n)), x.want)
	}
}

func TestTaggedIsSumOfSum(t *testing.T) {
	for _, tag := range []string{"", "\x00", "one", "open", "\xff\xfe", string(pattern(63)), string(pattern(64)), string(pattern(1000))} {
		for n := range 200 {
			b, domain := pattern(n), digest.Sum([]byte(tag))
			if digest.Tagged(tag, b) != digest.Sum(slices.Concat(domain[:], b)) {
				t.Errorf("the tag %q and %d bytes", tag, n)
			}
		}
	}
	empty := digest.Sum(nil)
	if d := digest.Tagged("", nil); d != digest.Sum(empty[:]) || d != digest.Tagged("", []byte{}) {
		t.Errorf("the empty tag and no bytes: got %s", text(d))
	}
	if digest.Tagged("a", []byte("bc")) == digest.Tagged("ab", []byte("c")) {
		t.Errorf("the tag and the bytes run together")
	}
}

// P3.2

func TestTree(t *testing.T) {
	l := elements(5000)
	for _, x := range []struct {
		n    int
		want string
	}{
		{0, "cce8c1a422b3ec97c38b4e959cf397695b6aab05788ba85975c59328abb54daa"},
		{1, "f06ce7c12dbbbd2fc54dc7e4e208a405b7683e34c0d73034d2b07e8d1cdb7bcf"},
		{2, "f85d05466d91b78659e7a81ffaea9ada4c4f066cb7e08ac17bf161f3d9ede48e"},
		{3, "3d83dd9be94519ccdcdd63e2ccdfa66f89c80a2e48ebe25fd7588b7c7f841354"},
		{4, "6e96b4951f8293812738171fa497d01cdbaed347b8f520685a2c7d42b74641ae"},
		{5, "c1857d0cc400939f8e5c9c19034950da08ff375c8e5a1d518e4a161aad60f1d2"},
		{6, "0f0139b790330a7d4380bb81f7889fbdda2b5ae4c7ea9bd9dc0b99924838f422"},
		{7, "1497f05e1dbd64d9df2043f1ac0886a305196ecb67757378b20a422fc185502b"},
		{8, "a5f25c38830e15965637668c19c62d30fc2a4fa7ed10ebe9b62bc37d85de7cab"},
		{9, "e0de253e1a6d8bb6e856614c7ab56bd915b83fc3473654826a7d41b2b0ef5f4c"},
		{10, "444bc5d6c7e487c3e6d188033d507e5afeff4669cd670c1f63abae4fbdd43929"},
		{12, "4d9f300d8f0967d713be9e683bea9800b9f8bf9117d0a39946659d96d6964595"},
		{15, "0d87f6c1970981c25e19aca77b4a2f6ce40a7f2f20fdd51a99b04ade0ba906e2"},
		{16, "e223319c9fddc4362b5d9960e4290bd57c0174820893e1a4b386258b6af72fbb"},
		{17, "5d7cb6842d9303eee1c37312bf736c9746542d6f2ed6ce1e1c4c238eca444b18"},
		{31, "fddb3a91c3be5dfa51fcf3c795b0010be20ede2c0be875bbf55faed71e2c337e"},
		{32, "2d06df7fec1f22df76e47d8b9967413568cab4f651e3004d1d688169bf9b421a"},
		{33, "e526f2be9e704dfa4194ba52fbb8faac75cc74d6a45f368268b8667834ed8c4d"},
		{63, "bf8a52e190f8b71109cf37fc7463d52264234e3dfcff19fefea02517e2c16981"},
		{64, "37ddf4273f3aae78509918a51322748153016da10945c891360e58b6b104820f"},
		{65, "fccb241c3afab81d51e126c15a1482734e826fd462a289590d71d777eb657732"},
		{100, "049248e005719240dff9242c8c6cc9a3e13fc9242c8ef2ba52984001dc6b27d6"},
		{1000, "2479d5a0699db6b3abdf2a972b62849ef2209693d1a0e1b798e9d134ed57c17a"},
		{4095, "9d8d29e90e2414ec3c387d29a45e9ed5adf7904688530e06c6b6bb93aed2bc76"},
		{4096, "b6f567ad58b38a50dabd2cf3508578b6b2568028e1b4efdf2134d6f99883a516"},
		{4097, "613d5a6dafb7e17a092b96cc8c2deee2f1d5f05e98f5ada662eacedc17a9d4b4"},
	} {
		expect(t, "a list of "+strconv.Itoa(x.n), digest.Tree(l[:x.n]), x.want)
	}
	for n := range 200 {
		expect(t, "a list of "+strconv.Itoa(n), digest.Tree(l[:n]), text(treeOf(l[:n])))
	}
	expect(t, "no list", digest.Tree(nil), text(digest.Tagged("empty", nil)))
	expect(t, "an empty list", digest.Tree([]api.Digest{}), text(digest.Tagged("empty", nil)))
}

// TestTreeOfEqualElements has lists whose elements do not tell where they are.
func TestTreeOfEqualElements(t *testing.T) {
	met := map[api.Digest]int{}
	for n := range 200 {
		d := digest.Tree(make([]api.Digest, n))
		if other, ok := met[d]; ok {
			t.Errorf("lists of %d and %d have one digest", n, other)
		}
		met[d] = n
	}
}

func TestPath(t *testing.T) {
	all := elements(1100)
	for _, n := range []int{1, 2, 3, 4, 5, 6, 7, 8, 9, 10, 11, 12, 13, 15, 16, 17, 31, 32, 33, 63, 64, 65, 100} {
		for at := range n {
			p, e := digest.Path(all[:n], at)
			if e != api.OK || !slices.Equal(p, pathOf(all[:n], at)) {
				t.Errorf("%d of %d: got %d digests, %d", at, n, len(p), e)
			}
		}
	}
	for _, at := range []int{0, 1, 511, 512, 513, 1022, 1023, 1024, 1025, 1087, 1088, 1099} {
		p, e := digest.Path(all, at)
		if e != api.OK || !slices.Equal(p, pathOf(all, at)) {
			t.Errorf("%d of %d: got %d digests, %d", at, len(all), len(p), e)
		}
	}
	l := elements(5)
	four := nodeOf(nodeOf(leafOf(l[0]), leafOf(l[1])), nodeOf(leafOf(l[2]), leafOf(l[3])))
	if p, e := digest.Path(l, 4); e != api.OK || !slices.Equal(p, []api.Digest{four}) {
		t.Errorf("4 of 5: got %d digests, %d", len(p), e)
	}
	want := []api.Digest{leafOf(l[0]), nodeOf(leafOf(l[2]), leafOf(l[3])), leafOf(l[4])}
	if p, e := digest.Path(l, 1); e != api.OK || !slices.Equal(p, want) {
		t.Errorf("1 of 5: got %d digests, %d", len(p), e)
	}
}

func TestPathOfNoElement(t *testing.T) {
	for _, n := range []int{0, 1, 2, 3, 8, 100} {
		for _, at := range []int{-1, -n - 1, n, n + 1, math.MinInt, math.MaxInt} {
			if p, e := digest.Path(elements(n), at); e != api.ErrArg || len(p) > 0 {
				t.Errorf("%d of %d: got %d digests, %d", at, n, len(p), e)
			}
		}
	}
	if p, e := digest.Path(nil, 0); e != api.ErrArg || len(p) > 0 {
		t.Errorf("no list: got %d digests, %d", len(p), e)
	}
}

func TestClimb(t *testing.T) {
	l := elements(5)
	d := digest.Sum([]byte("d"))
	expectClimb(t, "a list of one", d, 0, 1, nil, digest.Tree([]api.Digest{d}))
	expectClimb(t, "a list of one", d, 0, 1, []api.Digest{}, leafOf(d))
	expectClimb(t, "the first of two", d, 0, 2, l[:1], nodeOf(leafOf(d), l[0]))
	expectClimb(t, "the second of two", d, 1, 2, l[:1], nodeOf(l[0], leafOf(d)))
	expectClimb(t, "the second of three", d, 1, 3, l[:2], nodeOf(nodeOf(l[0], leafOf(d)), l[1]))
	expectClimb(t, "the third of three", d, 2, 3, l[:1], nodeOf(l[0], leafOf(d)))
	expectClimb(t, "the sixth of seven", d, 5, 7, l[:3], nodeOf(l[2], nodeOf(nodeOf(l[0], leafOf(d)), l[1])))
	expectClimb(t, "the last of seven", d, 6, 7, l[:2], nodeOf(l[1], nodeOf(l[0], leafOf(d))))
}

// TestClimbInGreatLists climbs lists of all magnitudes, the longest ones included, with paths of all lengths.
func TestClimbInGreatLists(t *testing.T) {
	r := rand.New(rand.NewSource(1))
	path := elements(50)
	sizes := []int{mostElements, mostElements - 1, mostElements/2 + 1, mostElements / 2, mostElements - mostElements/4}
	for bits := range 40 {
		sizes = append(sizes, 1<<bits, 1+r.Intn(1<<bits), 1+r.Intn(mostElements))
	}
	for _, n := range sizes {
		k := partOf(n)
		for _, at := range []int{0, k - 1, min(k, n-1), n - 1, n / 2, n / 3, r.Intn(n)} {
			length := lengthOf(at, n)
			expectClimb(t, "a path of the right length", path[49], at, n, path[:length], climbOf(path[49], at, n, path[:length]))
			for other := range path {
				if other != length {
					expectNoClimb(t, "a path of another length", at, n, path[:other])
				}
			}
		}
	}
}

func TestClimbWithInvalidNumbers(t *testing.T) {
	path := elements(70)
	for _, x := range []struct{ at, n int }{
		{0, 0}, {-1, 0}, {0, -1}, {-2, -1}, {0, math.MinInt}, {math.MinInt, math.MinInt}, {math.MinInt, 0},
		{0, mostElements + 1}, {mostElements, mostElements + 1}, {0, 2 * mostElements}, {0, 1 << 62}, {0, math.MaxInt}, {math.MaxInt - 1, math.MaxInt},
		{-1, 1}, {1, 1}, {2, 1}, {math.MinInt, 1}, {math.MaxInt, 1}, {-1, 5}, {5, 5}, {6, 5}, {math.MinInt, 5}, {math.MaxInt, 5},
		{-1, mostElements}, {mostElements, mostElements}, {math.MaxInt, mostElements}, {mostElements, math.MaxInt},
	} {
		for length := range path {
			expectNoClimb(t, "invalid numbers", x.at, x.n, path[:length])
		}
	}
	expectNoClimb(t, "no path", 0, 2, nil)
	expectNoClimb(t, "a path in a list of one", 0, 1, path[:1])
	expectNoClimb(t, "a path as long as that of the first element", 4, 5, path[:3])
	expectNoClimb(t, "a path as long as that of the last element", 0, 5, path[:1])
}

// P3.3

func TestClimbOfPathIsTree(t *testing.T) {
	all := elements(2049)
	for n := range 80 {
		tree := digest.Tree(all[:n])
		for at := range n {
			p, e := digest.Path(all[:n], at)
			if e != api.OK || len(p) > 40 {
				t.Errorf("%d of %d: got %d digests, %d", at, n, len(p), e)
			}
			expectClimb(t, "its own path", all[at], at, n, p, tree)
		}
	}
	for _, n := range []int{1000, 1024, 1025, 2047, 2048, 2049} {
		tree := digest.Tree(all[:n])
		for _, at := range []int{0, 1, n / 3, n / 2, n - 2, n - 1} {
			p, e := digest.Path(all[:n], at)
			if e != api.OK || len(p) > 40 {
				t.Errorf("%d of %d: got %d digests, %d", at, n, len(p), e)
			}
			expectClimb(t, "its own path", all[at], at, n, p, tree)
		}
	}
}

// TestClimbOfOthers alters each argument of Climb, so that it does not return the digest of the list.
func TestClimbOfOthers(t *testing.T) {
	l := elements(13)
	tree := digest.Tree(l)
	other := func(what string, d api.Digest, at, n int, p []api.Digest) {
		if x, _ := digest.Climb(d, at, n, p); x == tree {
			t.Errorf("%s: %d of %d: got the digest of the list", what, at, n)
		}
	}
	for at, d := range l {
		p, _ := digest.Path(l, at)
		altered := d
		altered[at] ^= 1
		other("another element", altered, at, len(l), p)
		for i := range l {
			if i != at {
				other("another index", d, i, len(l), p)
			}
		}
		other("a shorter path", d, at, len(l), p[1:])
		for i := range p {
			q := slices.Clone(p)
			q[i][31-at] ^= 128
			other("another path", d, at, len(l), q)
			if i > 0 {
				slices.Reverse(q[i-1 : i+1])
				other("a path in another order", d, at, len(l), q)
			}
		}
	}
}

func TestTreeIsNodeOfItsParts(t *testing.T) {
	l := elements(200)
	for n := 2; n <= len(l); n++ {
		k := partOf(n)
		if digest.Tree(l[:n]) != nodeOf(digest.Tree(l[:k]), digest.Tree(l[k:n])) {
			t.Errorf("a list of %d", n)
		}
	}
}

func TestElementAddedToFullTree(t *testing.T) {
	l := elements(4097)
	for n := 1; n <= 4096; n *= 2 {
		if digest.Tree(l[:n+1]) != nodeOf(digest.Tree(l[:n]), leafOf(l[n])) {
			t.Errorf("an element added to a list of %d", n)
		}
		if p, e := digest.Path(l[:n+1], n); e != api.OK || !slices.Equal(p, []api.Digest{digest.Tree(l[:n])}) {
			t.Errorf("the path of an element added to a list of %d: got %d digests, %d", n, len(p), e)
		}
	}
}

// The rule R2

func TestArgumentsAndResultsKeepTheirValues(t *testing.T) {
	room := pattern(200)
	digest.Sum(room[:70])
	digest.Tagged("x", room[:70])
	if !bytes.Equal(room, pattern(200)) {
		t.Errorf("the bytes are altered")
	}
	l, kept := elements(20), elements(20)
	digest.Tree(l[:11])
	p, _ := digest.Path(l[:11], 3)
	keptPath := slices.Clone(p)
	for at := range 11 {
		q, _ := digest.Path(l[:11], at)
		digest.Climb(l[at], at, 11, q)
		digest.Climb(l[3], 3, 11, p)
		clear(q[:cap(q)])
	}
	if !slices.Equal(l, kept) || !slices.Equal(p, keptPath) {
		t.Errorf("a list or a path is altered")
	}
	clear(l)
	if !slices.Equal(p, keptPath) {
		t.Errorf("a path changes with the list")
	}
}
