package manifest_test

import (
	"math"
	"math/rand"
	"slices"
	"strings"
	"testing"
	"unsafe"

	"storagebarter/api"
	"storagebarter/digest"
	"storagebarter/manifest"
)

// Texts whose digests are the least and the greatest one.
const (
	leastSum    = "x\x8e\xc6\xb5\b\xf5"
	greatestSum = "x\x8e\xc6\xb5\b\xf4"
)

// Two texts with one digest that differ in length: they have two names.
const (
	longer  = "mgovdkrs"
	shorter = "qggaqep"
)

// clashes returns pairs of different texts with one name, up to the limit of a chunk.
func clashes() [][2]string {
	l := [][2]string{{"\x25\x00\x1a\x70", "\x00\x5c\x00\x00"}, {"rwcytzn", "uvofjea"}, {"fteaqexn", "lxmziwwo"}, {"iggtwto", "vsilnlt"}}
	for _, p := range l {
		n := 256 - len(p[0])
		behind, before := strings.Repeat("x", n), strings.Repeat("\x00", n)
		l = append(l, [2]string{p[0] + behind, p[1] + behind}, [2]string{before + p[0], before + p[1]})
	}
	return l
}

// numbers returns numbers of versions: the least and the greatest ones, and others.
func numbers() []int {
	return []int{1, 2, 3, 63, 64, 8191, 8192, 1 << 20, 1 << 30, api.Prime - 2, api.Prime - 1}
}

// noNumbers returns numbers that no version has, also some that have the lower bits of one.
func noNumbers() []int {
	return []int{0, -1, -2, -api.Prime, 1 - api.Prime, api.Prime, api.Prime + 1, 1 << 31, 1<<32 + 1, 1<<62 + 1, math.MinInt, math.MinInt + 1, math.MaxInt - 1, math.MaxInt}
}

// noDigests returns numbers that are no digests.
func noDigests() []int {
	return []int{-1, -2, -api.Prime, 1 - api.Prime, api.Prime, api.Prime + 1, 1 << 31, 1 << 32, 1<<32 + 1, 1 << 62, math.MinInt, math.MinInt + 1, math.MaxInt - 1, math.MaxInt}
}

// noSizes returns numbers of bytes that no chunk has.
func noSizes() []int {
	return []int{0, -1, -2, -255, -256, 257, 258, 512, 513, api.MaxText, 1 << 31, 1 << 32, 1<<32 + 1, 1<<62 + 1, math.MinInt, math.MinInt + 1, math.MaxInt - 1, math.MaxInt}
}

// edges returns names with the least and the greatest digests and sizes.
func edges() []api.Name {
	var l []api.Name
	for _, d := range []int{0, 1, 2, 1 << 16, api.Prime - 2, api.Prime - 1} {
		for _, n := range []int{1, 2, 63, 64, 128, 255, 256} {
			l = append(l, api.Name{Digest: d, Size: n})
		}
	}
	return l
}

// noNames returns names that are not valid: the digest, the size, or both.
func noNames() []api.Name {
	var l []api.Name
	for _, n := range noSizes() {
		for _, d := range []int{0, 1, api.Prime - 1, -1, api.Prime} {
			l = append(l, api.Name{Digest: d, Size: n})
		}
	}
	for _, d := range noDigests() {
		for _, n := range []int{1, 2, 256, 0, 257} {
			l = append(l, api.Name{Digest: d, Size: n})
		}
	}
	return l
}

// many returns n valid names.
func many(n int) []api.Name {
	var l []api.Name
	for i := range n {
		l = append(l, api.Name{Digest: i * 7919 % api.Prime, Size: 1 + i%256})
	}
	return l
}

// version returns a version with these names.
func version(number int, l ...api.Name) api.Version {
	return api.Version{Number: number, Names: l}
}

// with returns names of which the one at a place is another one.
func with(l []api.Name, at int, n api.Name) []api.Name {
	l = slices.Clone(l)
	l[at] = n
	return l
}

// wrong is a version that is not valid, and its first error.
type wrong struct {
	v api.Version
	e api.Errno
}

// wrongs returns versions with one error, and with more of them.
func wrongs() []wrong {
	bad := api.Name{Digest: api.Prime, Size: 1}
	var l []wrong
	for _, n := range noNumbers() {
		l = append(l, wrong{version(n), api.ErrRange}, wrong{version(n, many(3)...), api.ErrRange}, wrong{version(n, bad), api.ErrRange}, wrong{version(n, many(257)...), api.ErrRange}, wrong{version(n, with(many(257), 0, bad)...), api.ErrRange})
	}
	for _, n := range []int{257, 258, 511, 512, 513, 1000} {
		l = append(l, wrong{version(1, many(n)...), api.ErrLimit}, wrong{version(api.Prime-1, many(n)...), api.ErrLimit}, wrong{version(1, with(many(n), 0, bad)...), api.ErrLimit}, wrong{version(1, make([]api.Name, n)...), api.ErrLimit})
	}
	for _, n := range noNames() {
		l = append(l, wrong{version(1, n), api.ErrForm}, wrong{version(api.Prime-1, append(many(2), n)...), api.ErrForm}, wrong{version(2, append([]api.Name{n}, many(2)...)...), api.ErrForm})
	}
	return l
}

// rights returns versions that are valid: at the limits, and others.
func rights() []api.Version {
	var l []api.Version
	for _, n := range numbers() {
		l = append(l, version(n), version(n, edges()...), version(n, many(3)...))
	}
	for _, n := range edges() {
		l = append(l, version(1, n), version(2, n, n), version(3, append(many(5), n)...), version(4, append([]api.Name{n}, many(5)...)...))
	}
	for _, n := range []int{1, 2, 127, 128, 255, 256} {
		l = append(l, version(1, many(n)...), version(5, slices.Repeat([]api.Name{{Digest: api.Prime - 1, Size: 256}}, n)...), version(6, slices.Repeat([]api.Name{{Size: 1}}, n)...))
	}
	return l
}

// named is the definition of the name of a content.
func named(s string) api.Name {
	return api.Name{Digest: digest.Sum(s), Size: len(s)}
}

// of is the definition of the version of some chunks.
func of(number int, chunks []string) api.Version {
	v := version(number)
	for _, s := range chunks {
		v.Names = append(v.Names, named(s))
	}
	return v
}

// number is the definition of the bytes of a number: groups of 7 bits of 2n, or of -2n - 1 if it is negative.
func number(n int) string {
	u := 2 * uint64(n)
	if n < 0 {
		u = uint64(-2*(n+1)) + 1
	}
	var b []byte
	for ; u > 127; u /= 128 {
		b = append(b, byte(128+u%128))
	}
	return string(append(b, byte(u)))
}

// numbersOf is the bytes of some numbers, one behind the other.
func numbersOf(l ...int) string {
	s := ""
	for _, n := range l {
		s += number(n)
	}
	return s
}

// encoded is the definition of the bytes of a version, also of one that is not valid.
func encoded(v api.Version) string {
	s := numbersOf(v.Number, 2*len(v.Names))
	for _, n := range v.Names {
		s += numbersOf(n.Digest, n.Size)
	}
	return s
}

// random returns n bytes.
func random(r *rand.Rand, n int) string {
	b := make([]byte, n)
	r.Read(b)
	return string(b)
}

// chunks returns n chunks of any valid length, of which some are there more than once.
func chunks(r *rand.Rand, n int) []string {
	var l []string
	for range n {
		if len(l) > 0 && r.Intn(4) == 0 {
			l = append(l, l[r.Intn(len(l))])
		} else {
			l = append(l, random(r, 1+r.Intn(256)))
		}
	}
	return l
}

// shuffled returns texts in another order.
func shuffled(r *rand.Rand, l []string) []string {
	l = slices.Clone(l)
	r.Shuffle(len(l), func(i, k int) { l[i], l[k] = l[k], l[i] })
	return l
}

// distinct returns texts in their order, each of them once.
func distinct(l []string) []string {
	var m []string
	for _, s := range l {
		if !slices.Contains(m, s) {
			m = append(m, s)
		}
	}
	return m
}

// less reports whether a name comes before another one.
func less(a, b api.Name) bool {
	return a.Digest < b.Digest || a.Digest == b.Digest && a.Size < b.Size
}

// missing is the definition of the names of a list that another one has not: each of them once, put where it belongs.
func missing(l, others []api.Name) []api.Name {
	var m []api.Name
	for _, n := range l {
		if slices.Contains(others, n) || slices.Contains(m, n) {
			continue
		}
		at := 0
		for at < len(m) && less(m[at], n) {
			at++
		}
		m = slices.Insert(m, at, n)
	}
	return m
}

func same(a, b api.Version) bool {
	return a.Number == b.Number && slices.Equal(a.Names, b.Names)
}

func wantCheck(t *testing.T, v api.Version, e api.Errno) {
	t.Helper()
	if got := manifest.Check(v); got != e {
		t.Errorf("Check(%.200v) = %d, want %d", v, got, e)
	}
}

func wantOf(t *testing.T, number int, l []string, v api.Version, e api.Errno) {
	t.Helper()
	if got, gotE := manifest.Of(number, l); !same(got, v) || gotE != e {
		t.Errorf("Of(%d, %.200q) = %.200v, %d, want %.200v, %d", number, l, got, gotE, v, e)
	}
}

func wantSize(t *testing.T, v api.Version, n int, e api.Errno) {
	t.Helper()
	if got, gotE := manifest.Size(v); got != n || gotE != e {
		t.Errorf("Size(%.200v) = %d, %d, want %d, %d", v, got, gotE, n, e)
	}
}

func wantChange(t *testing.T, a, b api.Version, more, less []api.Name, e api.Errno) {
	t.Helper()
	if gotMore, gotLess, gotE := manifest.Change(a, b); !slices.Equal(gotMore, more) || !slices.Equal(gotLess, less) || gotE != e {
		t.Errorf("Change(%.200v, %.200v) = %.200v, %.200v, %d, want %.200v, %.200v, %d", a, b, gotMore, gotLess, gotE, more, less, e)
	}
}

func wantRestore(t *testing.T, v api.Version, l []string, text string, e api.Errno) {
	t.Helper()
	if got, gotE := manifest.Restore(v, l); got != text || gotE != e {
		t.Errorf("Restore(%.200v, %.200q) = %.40q, %d, want %.40q, %d", v, l, got, gotE, text, e)
	}
}

func wantEncode(t *testing.T, v api.Version, s string, e api.Errno) {
	t.Helper()
	if got, gotE := manifest.Encode(v); got != s || gotE != e {
		t.Errorf("Encode(%.200v) = %.40q, %d, want %.40q, %d", v, got, gotE, s, e)
	}
}

func wantDecode(t *testing.T, s string, v api.Version, e api.Errno) {
	t.Helper()
	if got, gotE := manifest.Decode(s); !same(got, v) || gotE != e {
		t.Errorf("Decode(%.40q) = %.200v, %d, want %.200v, %d", s, got, gotE, v, e)
	}
}

func wantSame(t *testing.T, a, b api.Version, want bool) {
	t.Helper()
	if manifest.Same(a, b) != want || manifest.Same(b, a) != want {
		t.Errorf("Same(%.200v, %.200v), or the other way round, is not %v", a, b, want)
	}
}

// What the tests of clashes rest on.
func TestTexts(t *testing.T) {
	for _, p := range clashes() {
		if p[0] == p[1] || named(p[0]) != named(p[1]) || len(p[0]) > 256 {
			t.Errorf("%q, %q: no clash", p[0], p[1])
		}
	}
	if digest.Sum(leastSum) != 0 || digest.Sum(greatestSum) != api.Prime-1 || digest.Sum(longer) != digest.Sum(shorter) {
		t.Error("other digests")
	}
}

// P8.1: versions at the limits and between them.
func TestCheck(t *testing.T) {
	for _, v := range rights() {
		wantCheck(t, v, api.OK)
	}
	wantCheck(t, api.Version{Number: 1, Names: []api.Name{}}, api.OK)
}

// P8.1: each error, and their order.
func TestCheckOfWrongVersions(t *testing.T) {
	wantCheck(t, api.Version{}, api.ErrRange)
	for _, x := range wrongs() {
		wantCheck(t, x.v, x.e)
	}
}

// P8.1: names that are not valid, at any place.
func TestCheckOfWrongNames(t *testing.T) {
	for _, at := range []int{0, 1, 2, 100, 254, 255} {
		for _, n := range noNames() {
			wantCheck(t, version(1, with(many(256), at, n)...), api.ErrForm)
		}
	}
}

// P8.1: names of ordinary chunks, in order.
func TestOf(t *testing.T) {
	a, b, ab := named("a"), named("b"), named("ab")
	for _, x := range []struct {
		l    []string
		want []api.Name
	}{
		{nil, nil}, {[]string{}, nil}, {[]string{"a"}, []api.Name{a}}, {[]string{"a", "b"}, []api.Name{a, b}}, {[]string{"b", "a"}, []api.Name{b, a}}, {[]string{"ab", "a", "b", "a", "ab"}, []api.Name{ab, a, b, a, ab}}, {[]string{"a", "a", "a"}, []api.Name{a, a, a}},
		{[]string{"a"}, []api.Name{{Digest: 1000003 + 98, Size: 1}}}, {[]string{"\x00", "\xff"}, []api.Name{{Digest: 1000004, Size: 1}, {Digest: 1000259, Size: 1}}},
		{[]string{leastSum, greatestSum}, []api.Name{{Digest: 0, Size: 6}, {Digest: api.Prime - 1, Size: 6}}},
		// One digest, but two names.
		{[]string{longer, shorter}, []api.Name{{Digest: 920612602, Size: 8}, {Digest: 920612602, Size: 7}}},
	} {
		wantOf(t, 7, x.l, version(7, x.want...), api.OK)
	}
}

// P8.1: the definition, for many chunks.
func TestOfOfManyChunks(t *testing.T) {
	r := rand.New(rand.NewSource(22))
	for _, number := range numbers() {
		for _, n := range []int{0, 1, 2, 30, 255, 256} {
			l := chunks(r, n)
			wantOf(t, number, l, of(number, l), api.OK)
		}
	}
}

// P8.1: numbers that no version has, whatever the chunks are.
func TestOfOfWrongNumbers(t *testing.T) {
	pair := clashes()[0]
	for _, n := range noNumbers() {
		for _, l := range [][]string{nil, {"a"}, {""}, pair[:], make([]string, 257), slices.Repeat([]string{"a"}, 257)} {
			wantOf(t, n, l, api.Version{}, api.ErrRange)
		}
	}
}

// P8.1: as many chunks as the limit, and more, whatever they are.
func TestOfAtTheLimit(t *testing.T) {
	for _, s := range []string{"a", leastSum, strings.Repeat("x", 256)} {
		wantOf(t, 1, slices.Repeat([]string{s}, 255), of(1, slices.Repeat([]string{s}, 255)), api.OK)
		wantOf(t, 1, slices.Repeat([]string{s}, 256), of(1, slices.Repeat([]string{s}, 256)), api.OK)
	}
	pair := clashes()[0]
	for _, n := range []int{257, 258, 512, 513, 1000} {
		for _, s := range []string{"a", "", strings.Repeat("x", 257)} {
			wantOf(t, 1, slices.Repeat([]string{s}, n), api.Version{}, api.ErrLimit)
		}
		wantOf(t, 1, slices.Repeat(pair[:], n)[:n], api.Version{}, api.ErrLimit)
	}
}

// P8.1: chunks that are empty, or too long, at any place.
func TestOfOfWrongChunks(t *testing.T) {
	r := rand.New(rand.NewSource(23))
	for _, n := range []int{1, 2, 255, 256} {
		wantOf(t, 1, []string{"a", strings.Repeat("x", n)}, of(1, []string{"a", strings.Repeat("x", n)}), api.OK)
	}
	for _, n := range []int{0, 257, 258, 512, 513, 1 << 16, 1<<16 + 1} {
		s := strings.Repeat("x", n)
		wantOf(t, 1, []string{s}, api.Version{}, api.ErrForm)
		wantOf(t, 1, []string{s, s}, api.Version{}, api.ErrForm)
		for _, at := range []int{0, 1, 100, 255} {
			l := chunks(r, 256)
			l[at] = s
			wantOf(t, 1, l, api.Version{}, api.ErrForm)
		}
	}
}

// P8.1: two different chunks with one name, at any places.
func TestOfOfClashes(t *testing.T) {
	r := rand.New(rand.NewSource(24))
	for _, p := range clashes() {
		for _, l := range [][]string{{p[0], p[1]}, {p[1], p[0]}, {p[0], p[0], p[1]}, {p[0], p[1], p[1]}, {p[0], "a", p[1]}, {"a", p[1], "a", p[0], "a"}} {
			wantOf(t, 1, l, api.Version{}, api.ErrClash)
		}
		for _, l := range [][]string{{p[0]}, {p[1]}, {p[0], p[0]}, {p[1], "a", p[1], p[1]}, {p[0], p[1][1:]}, {p[1][:3], p[0]}} {
			wantOf(t, 1, l, of(1, l), api.OK)
		}
		for _, at := range []int{0, 1, 254} {
			l := chunks(r, 256)
			l[at], l[255] = p[0], p[1]
			wantOf(t, 1, l, api.Version{}, api.ErrClash)
		}
	}
	// All of them are two and two with one name, and none is there twice.
	var all []string
	for _, p := range clashes() {
		all = append(all, p[0])
	}
	wantOf(t, 1, all, of(1, all), api.OK)
	wantOf(t, 1, append(all, clashes()[5][1]), api.Version{}, api.ErrClash)
	// Four different ones with one name.
	p, q := clashes()[1], clashes()[2]
	wantOf(t, 1, []string{p[0] + q[0], p[0] + q[1], p[1] + q[0], p[1] + q[1]}, api.Version{}, api.ErrClash)
}

// P8.1: a chunk of a wrong length comes before a clash, wherever it is.
func TestOfOfClashesAndWrongChunks(t *testing.T) {
	for _, p := range clashes() {
		for _, s := range []string{"", strings.Repeat("x", 257)} {
			for _, l := range [][]string{{p[0], p[1], s}, {p[0], s, p[1]}, {s, p[0], p[1]}} {
				wantOf(t, 1, l, api.Version{}, api.ErrForm)
			}
		}
	}
}

// P8.1: the sum of all sizes, also of names that are there more than once.
func TestSize(t *testing.T) {
	for _, x := range []struct {
		v    api.Version
		want int
	}{
		{version(1), 0}, {version(1, api.Name{Size: 1}), 1}, {version(api.Prime-1, api.Name{Digest: 5, Size: 256}), 256}, {version(1, api.Name{Digest: 3, Size: 2}, api.Name{Digest: 3, Size: 2}, api.Name{Digest: 9, Size: 5}), 9},
		{version(1, slices.Repeat([]api.Name{{Size: 1}}, 256)...), 256}, {version(1, slices.Repeat([]api.Name{{Digest: api.Prime - 1, Size: 256}}, 256)...), 1 << 16}, {version(1, many(256)...), 256 * 257 / 2},
	} {
		wantSize(t, x.v, x.want, api.OK)
	}
	for _, v := range rights() {
		n := 0
		for _, x := range v.Names {
			n += x.Size
		}
		wantSize(t, v, n, api.OK)
	}
}

func TestSizeOfWrongVersions(t *testing.T) {
	for _, x := range wrongs() {
		wantSize(t, x.v, 0, x.e)
	}
}

// P8.1: versions are equal if their numbers and names are, in order.
func TestSame(t *testing.T) {
	a, b, c := api.Name{Digest: 5, Size: 3}, api.Name{Digest: 5, Size: 4}, api.Name{Digest: 6, Size: 3}
	for _, v := range rights() {
		wantSame(t, v, version(v.Number, slices.Clone(v.Names)...), true)
		wantSame(t, v, version(v.Number+1, v.Names...), false)
		wantSame(t, v, version(v.Number, append(slices.Clone(v.Names), a)...), false)
	}
	for _, l := range [][]api.Name{nil, {a}, {b}, {c}, {a, a}, {a, b}, {b, a}, {a, c}, {c, a}, {a, a, b}, {a, b, a}, {a, b, b}, {a, b, c}, {c, b, a}, {{Digest: 3, Size: 5}}} {
		for _, m := range [][]api.Name{nil, {a}, {b}, {c}, {a, a}, {a, b}, {b, a}, {a, c}, {c, a}, {a, a, b}, {a, b, a}, {a, b, b}, {a, b, c}, {c, b, a}, {{Digest: 3, Size: 5}}} {
			equal := len(l) == len(m)
			for i := range min(len(l), len(m)) {
				equal = equal && l[i].Digest == m[i].Digest && l[i].Size == m[i].Size
			}
			wantSame(t, version(7, l...), version(7, m...), equal)
			wantSame(t, version(7, l...), version(8, m...), false)
		}
	}
	wantSame(t, api.Version{Number: 1}, api.Version{Number: 1, Names: []api.Name{}}, true)
	wantSame(t, version(1, many(256)...), version(1, with(many(256), 255, a)...), false)
}

// P8.1: versions that are not valid are equal to themselves alone.
func TestSameOfWrongVersions(t *testing.T) {
	wantSame(t, api.Version{}, api.Version{Names: []api.Name{}}, true)
	wantSame(t, api.Version{}, version(1), false)
	l := wrongs()
	for i, x := range l {
		wantSame(t, x.v, version(x.v.Number, slices.Clone(x.v.Names)...), true)
		next := l[(i+1)%len(l)].v
		wantSame(t, x.v, next, same(x.v, next))
	}
	wantSame(t, version(math.MinInt), version(math.MaxInt), false)
	wantSame(t, version(1), version(1<<32+1), false)
	wantSame(t, version(-1), version(1), false)
	wantSame(t, version(1, api.Name{Digest: -1, Size: 1}), version(1, api.Name{Digest: 1, Size: -1}), false)
	wantSame(t, version(1, many(257)...), version(1, many(258)...), false)
}

// P8.2: names that are in one version alone, in order.
func TestChange(t *testing.T) {
	a, b, c, d := api.Name{Digest: 5, Size: 3}, api.Name{Digest: 5, Size: 4}, api.Name{Digest: 6, Size: 2}, api.Name{Digest: 9, Size: 1}
	for _, x := range []struct{ a, b, more, less []api.Name }{
		{nil, nil, nil, nil}, {nil, []api.Name{a}, []api.Name{a}, nil}, {[]api.Name{a}, nil, nil, []api.Name{a}},
		// The same names, in another order or another number of times.
		{[]api.Name{a, b}, []api.Name{b, a}, nil, nil}, {[]api.Name{a, a, b}, []api.Name{a, b}, nil, nil}, {[]api.Name{a, b, a}, []api.Name{b, b, b, a}, nil, nil}, {[]api.Name{d, c, b, a}, []api.Name{a, b, c, d}, nil, nil},
		// Each of them once.
		{nil, []api.Name{a, a, a}, []api.Name{a}, nil}, {[]api.Name{c, a, c}, []api.Name{a, d, d}, []api.Name{d}, []api.Name{c}}, {[]api.Name{c, b, c, b}, []api.Name{d, a, d, a}, []api.Name{a, d}, []api.Name{b, c}},
		// By digests, then by sizes.
		{nil, []api.Name{d, c, b, a}, []api.Name{a, b, c, d}, nil}, {[]api.Name{d, b, c, a}, nil, nil, []api.Name{a, b, c, d}}, {[]api.Name{b}, []api.Name{d, c, a}, []api.Name{a, c, d}, []api.Name{b}},
		// Names that differ in the digest alone, or in the size alone.
		{[]api.Name{a}, []api.Name{b}, []api.Name{b}, []api.Name{a}}, {[]api.Name{a, b}, []api.Name{b}, nil, []api.Name{a}}, {[]api.Name{{Digest: 6, Size: 3}}, []api.Name{a}, []api.Name{a}, []api.Name{{Digest: 6, Size: 3}}},
		{[]api.Name{{Digest: 3, Size: 5}}, []api.Name{a}, []api.Name{a}, []api.Name{{Digest: 3, Size: 5}}},
		{[]api.Name{{Digest: 0, Size: 1}, {Digest: api.Prime - 1, Size: 256}}, []api.Name{{Digest: api.Prime - 1, Size: 1}, {Digest: 0, Size: 256}}, []api.Name{{Digest: 0, Size: 256}, {Digest: api.Prime - 1, Size: 1}}, []api.Name{{Digest: 0, Size: 1}, {Digest: api.Prime - 1, Size: 256}}},
	} {
		wantChange(t, version(7, x.a...), version(8, x.b...), x.more, x.less, api.OK)
		wantChange(t, version(8, x.b...), version(7, x.a...), x.less, x.more, api.OK)
		wantChange(t, version(3, x.a...), version(3, x.b...), x.more, x.less, api.OK)
	}
}

// P8.2: the definition, for versions with few and with many names.
func TestChangeOfManyVersions(t *testing.T) {
	r := rand.New(rand.NewSource(25))
	for _, kinds := range []int{1, 2, 3, 5, 20, 200, 400} {
		for range 60 {
			var a, b api.Version
			for _, v := range []*api.Version{&a, &b} {
				v.Number = 1 + r.Intn(5)
				for range r.Intn(257) {
					k := r.Intn(kinds)
					v.Names = append(v.Names, api.Name{Digest: k % 20, Size: 1 + k/20})
				}
			}
			wantChange(t, a, b, missing(b.Names, a.Names), missing(a.Names, b.Names), api.OK)
		}
	}
	rights := rights()
	for i, a := range rights {
		b := rights[r.Intn(len(rights))]
		wantChange(t, a, b, missing(b.Names, a.Names), missing(a.Names, b.Names), api.OK)
		wantChange(t, a, rights[(i+1)%len(rights)], missing(rights[(i+1)%len(rights)].Names, a.Names), missing(a.Names, rights[(i+1)%len(rights)].Names), api.OK)
		wantChange(t, a, a, nil, nil, api.OK)
	}
}

// P8.2: as many names as the limit, none of which both versions have.
func TestChangeOfWholeVersions(t *testing.T) {
	var l, m []api.Name
	for i := range 256 {
		l = append(l, api.Name{Digest: 2 * i, Size: 1})
		m = append(m, api.Name{Digest: 2*i + 1, Size: 256})
	}
	back := slices.Clone(l)
	slices.Reverse(back)
	wantChange(t, version(1, back...), version(2, m...), m, l, api.OK)
	wantChange(t, version(1, m...), version(2, back...), l, m, api.OK)
}

// P8.2: the errors of the first version come before those of the second one.
func TestChangeOfWrongVersions(t *testing.T) {
	l := wrongs()
	for i, x := range l {
		wantChange(t, x.v, version(1, many(3)...), nil, nil, x.e)
		wantChange(t, version(1, many(3)...), x.v, nil, nil, x.e)
		wantChange(t, x.v, x.v, nil, nil, x.e)
		wantChange(t, x.v, l[(i+len(l)/2)%len(l)].v, nil, nil, x.e)
	}
	range1, limit, form := version(0), version(1, many(257)...), version(1, api.Name{})
	for _, x := range []struct {
		a, b api.Version
		e    api.Errno
	}{{range1, limit, api.ErrRange}, {range1, form, api.ErrRange}, {limit, range1, api.ErrLimit}, {limit, form, api.ErrLimit}, {form, range1, api.ErrForm}, {form, limit, api.ErrForm}} {
		wantChange(t, x.a, x.b, nil, nil, x.e)
	}
}

// P8.2: chunks in the order of the version, whatever else is there, and in whichever order.
func TestRestore(t *testing.T) {
	v := of(7, []string{"ab", "c", "ab", "dd"})
	for _, l := range [][]string{{"ab", "c", "dd"}, {"dd", "c", "ab"}, {"c", "c", "dd", "ab", "dd", "ab"}, {"ab", "c", "ab", "dd"}, {"", "x", "dd", "ba", "ab", "cc", "c", "", "d", "abcabdd", strings.Repeat("c", 257)}} {
		wantRestore(t, v, l, "abcabdd", api.OK)
	}
	for _, l := range [][]string{nil, {}, {""}, {"a"}, {"a", "b", ""}, {strings.Repeat("x", 1000)}} {
		wantRestore(t, version(1), l, "", api.OK)
	}
	wantRestore(t, of(1, []string{leastSum, greatestSum, leastSum}), []string{greatestSum, leastSum}, leastSum+greatestSum+leastSum, api.OK)
	wantRestore(t, of(1, []string{longer, shorter}), []string{shorter, longer}, longer+shorter, api.OK)
	for _, number := range numbers() {
		wantRestore(t, of(number, []string{"b", "a"}), []string{"a", "b"}, "ba", api.OK)
	}
}

// P8.2: as many bytes as a version can have, and more chunks than it can have.
func TestRestoreOfLongTexts(t *testing.T) {
	r := rand.New(rand.NewSource(26))
	var l []string
	for range 256 {
		l = append(l, random(r, 256))
	}
	wantRestore(t, of(1, l), shuffled(r, l), strings.Join(l, ""), api.OK)
	most := strings.Repeat("x", 256)
	wantRestore(t, of(1, slices.Repeat([]string{most}, 256)), []string{most}, strings.Repeat("x", 1<<16), api.OK)
	more := chunks(r, 3000)
	wantRestore(t, of(1, more[2800:2900]), more, strings.Join(more[2800:2900], ""), api.OK)
}

// P8.2: a chunk that is lacking, at any place, also where others have its digest or its size.
func TestRestoreWithoutChunks(t *testing.T) {
	l := []string{"ab", "c", "dd", "c", longer}
	v := of(1, l)
	for _, m := range [][]string{nil, {}, {""}, {"x", "y"}, {"ab", "c", "dd"}, {"ab", "c", longer}, {"ab", "dd", longer}, {"c", "dd", longer}, {"ab", "c", "dd", shorter}, {"ba", "c", "dd", longer}, {"abcddc" + longer}, {"ab", "c", "dd", longer + "x"}} {
		wantRestore(t, v, m, "", api.ErrNone)
	}
	wantRestore(t, version(1, named("ab"), api.Name{Digest: named("ab").Digest, Size: 3}), []string{"ab", "abc"}, "", api.ErrNone)
	wantRestore(t, version(1, named("ab"), api.Name{Digest: named("ab").Digest + 1, Size: 2}), []string{"ab"}, "", api.ErrNone)
	for _, n := range edges() {
		wantRestore(t, version(1, n), []string{"x", "", "xyz"}, "", api.ErrNone)
	}
}

// P8.2: two different chunks with a name of the version, wherever they are.
func TestRestoreOfClashes(t *testing.T) {
	r := rand.New(rand.NewSource(27))
	for _, p := range clashes() {
		v := of(1, []string{"a", p[0], "b"})
		for _, l := range [][]string{{"a", "b", p[0], p[1]}, {p[1], "a", p[0], "b"}, {p[0], p[0], p[1], "a", "b"}, {p[1], p[1], p[0], p[1], "a", "b"}} {
			wantRestore(t, v, l, "", api.ErrClash)
		}
		// What is there alone is right, though it is not what the version was made of.
		wantRestore(t, v, []string{"a", p[0], p[0], "b"}, "a"+p[0]+"b", api.OK)
		wantRestore(t, v, []string{"a", p[1], p[1], "b"}, "a"+p[1]+"b", api.OK)
		// Others may clash.
		wantRestore(t, of(1, []string{"a", "b"}), []string{p[0], "b", p[1], "a"}, "ab", api.OK)
		wantRestore(t, version(1), []string{p[0], p[1]}, "", api.OK)
		l := append(chunks(r, 255), p[0])
		wantRestore(t, of(1, l), append(shuffled(r, l), p[1]), "", api.ErrClash)
		wantRestore(t, of(1, l[:255]), append(shuffled(r, l), p[1]), strings.Join(l[:255], ""), api.OK)
	}
	p, q := clashes()[1], clashes()[2]
	four := []string{p[0] + q[0], p[0] + q[1], p[1] + q[0], p[1] + q[1]}
	wantRestore(t, of(1, four[:1]), four, "", api.ErrClash)
	wantRestore(t, of(1, four[:1]), four[3:], four[3], api.OK)
}

// P8.2: the first name with an error decides.
func TestRestoreNameByName(t *testing.T) {
	for _, p := range clashes() {
		l := []string{p[0], "a", p[1]}
		wantRestore(t, of(1, []string{"a", "b", p[0]}), l, "", api.ErrNone)
		wantRestore(t, of(1, []string{"b", "a", p[1]}), l, "", api.ErrNone)
		wantRestore(t, of(1, []string{p[0], "a", "b"}), l, "", api.ErrClash)
		wantRestore(t, of(1, []string{"a", p[1], "b"}), l, "", api.ErrClash)
	}
}

// P8.2: errors of the version come first, whatever the chunks are.
func TestRestoreOfWrongVersions(t *testing.T) {
	p := clashes()[0]
	for _, x := range wrongs() {
		wantRestore(t, x.v, nil, "", x.e)
		wantRestore(t, x.v, []string{"", "a", strings.Repeat("x", 257)}, "", x.e)
	}
	for _, l := range [][]string{nil, {"a", p[0]}, {"a", p[0], p[1]}} {
		wantRestore(t, version(1, named("b"), named(p[0]), api.Name{}), l, "", api.ErrForm)
		wantRestore(t, version(1, named(p[0]), named("b"), api.Name{Size: 257}), l, "", api.ErrForm)
		wantRestore(t, version(0, named("a"), named(p[0])), l, "", api.ErrRange)
	}
}

// P8.3, and the chapter's example.
func TestEncode(t *testing.T) {
	for _, x := range []struct {
		v api.Version
		s string
	}{
		{version(1), "\x02\x00"}, {version(63), "\x7e\x00"}, {version(64), "\x80\x01\x00"}, {version(api.Prime - 1), "\xfc\xff\xff\xff\x0f\x00"},
		{version(1, api.Name{Digest: 0, Size: 1}), "\x02\x04\x00\x02"}, {version(2, api.Name{Digest: 1, Size: 256}, api.Name{Digest: 0, Size: 3}), "\x04\x08\x02\x80\x04\x00\x06"}, {version(3, api.Name{Digest: api.Prime - 1, Size: 2}), "\x06\x04\xfc\xff\xff\xff\x0f\x04"},
	} {
		wantEncode(t, x.v, x.s, api.OK)
		wantDecode(t, x.s, x.v, api.OK)
	}
	for _, v := range rights() {
		wantEncode(t, v, encoded(v), api.OK)
	}
}

func TestEncodeOfWrongVersions(t *testing.T) {
	for _, x := range wrongs() {
		wantEncode(t, x.v, "", x.e)
	}
}

// P8.3: the definition, for versions that are valid.
func TestDecode(t *testing.T) {
	for _, v := range rights() {
		wantDecode(t, encoded(v), v, api.OK)
	}
}

// P8.3: bytes that are cut short, at any place, or that follow.
func TestDecodeOfOtherLengths(t *testing.T) {
	for _, v := range rights() {
		s := encoded(v)
		for n := range min(len(s), 300) {
			wantDecode(t, s[:n], api.Version{}, api.ErrShort)
		}
		wantDecode(t, s[:len(s)-1], api.Version{}, api.ErrShort)
		for _, more := range []string{"\x00", "\x02", "\x80", "\xff", s} {
			wantDecode(t, s+more, api.Version{}, api.ErrForm)
		}
	}
}

// P8.3: bytes that are no number or no list, and what comes first.
func TestDecodeOfNoNumbers(t *testing.T) {
	many := strings.Repeat("\xff", 9)
	for _, x := range []struct {
		s string
		e api.Errno
	}{
		// The number of the version.
		{"", api.ErrShort}, {"\x80", api.ErrShort}, {"\xff\xff", api.ErrShort}, {many, api.ErrShort}, {"\x80\x00", api.ErrForm}, {"\x82\x00\x00", api.ErrForm}, {many + "\x02\x00", api.ErrForm}, {many + "\x80\x00", api.ErrForm},
		// The length of the list.
		{"\x02", api.ErrShort}, {"\x02\x80", api.ErrShort}, {"\x02\x80\x00", api.ErrForm}, {"\x02\x01", api.ErrForm}, {"\x02\x03\x00", api.ErrForm}, {"\x02" + number(-512), api.ErrForm}, {"\x02" + number(math.MinInt), api.ErrForm}, {"\x02" + many + "\x02", api.ErrForm},
		{"\x02" + number(513), api.ErrLimit}, {"\x02" + number(514), api.ErrLimit}, {"\x02" + number(1<<32), api.ErrLimit}, {"\x02" + number(math.MaxInt), api.ErrLimit},
		{"\x02" + number(512), api.ErrShort}, {"\x02" + number(511), api.ErrShort}, {"\x02" + number(2), api.ErrShort},
		// The numbers of the list.
		{"\x02\x04\x80", api.ErrShort}, {"\x02\x04\x80\x00\x02", api.ErrForm}, {"\x02\x04\x00\x80", api.ErrShort}, {"\x02\x04\x00\x82\x00", api.ErrForm}, {"\x02\x04\x00" + many + "\x02", api.ErrForm},
		// Of a wrong number of the version, nothing is said before these.
		{"\x00", api.ErrShort}, {"\x01", api.ErrShort}, {"\x00\x01", api.ErrForm}, {"\x00" + number(513), api.ErrLimit}, {"\x00\x04\x00", api.ErrShort}, {"\x00\x04\x00\x80\x00", api.ErrForm}, {number(math.MaxInt), api.ErrShort},
		// Nor of wrong names, or an odd number of numbers.
		{"\x02\x06\x01\x00", api.ErrShort}, {"\x02\x08\x01\x00\x00", api.ErrShort}, {"\x02\x06\x00\x00", api.ErrShort},
	} {
		wantDecode(t, x.s, api.Version{}, x.e)
	}
}

// P8.3: as many numbers as the limit, one less and one more: these are counted before they are told to be odd.
func TestDecodeOfManyNumbers(t *testing.T) {
	ones := slices.Repeat([]int{1}, 600)
	for _, n := range []int{2, 4, 510, 512} {
		wantDecode(t, "\x02"+number(n)+numbersOf(ones[:n]...), version(1, slices.Repeat([]api.Name{{Digest: 1, Size: 1}}, n/2)...), api.OK)
	}
	for _, n := range []int{1, 3, 5, 255, 257, 509, 511} {
		wantDecode(t, "\x02"+number(n)+numbersOf(ones[:n]...), api.Version{}, api.ErrForm)
	}
	for _, n := range []int{513, 514, 515, 600} {
		wantDecode(t, "\x02"+number(n)+numbersOf(ones[:n]...), api.Version{}, api.ErrLimit)
		wantDecode(t, "\x02"+number(n)+numbersOf(ones[:n]...)+"\x00", api.Version{}, api.ErrLimit)
	}
}

// P8.3: bytes that follow, and an odd number of numbers, come before what is wrong with the version.
func TestDecodeOfWrongForms(t *testing.T) {
	for _, n := range noNumbers() {
		for _, s := range []string{"\x00\x00", "\x00\x80", "\x02\x02", "\x06\x02\x02\x02", "\x02\x00", "\x06\x00\x00\x00", "\x04\x02\x02\x00", "\x04\x00\x00\x00"} {
			wantDecode(t, number(n)+s, api.Version{}, api.ErrForm)
		}
	}
}

// P8.3: the errors of Check, in their order, also of the least and the greatest numbers.
func TestDecodeOfWrongVersions(t *testing.T) {
	for _, x := range wrongs() {
		e := x.e
		if len(x.v.Names) > 256 {
			e = api.ErrLimit // of the list, which is read before the number is looked at
		}
		wantDecode(t, encoded(x.v), api.Version{}, e)
	}
}

// The consequences: restored from its chunks, in any order, a version is all of them, one behind the other.
func TestRestoreOfOf(t *testing.T) {
	r := rand.New(rand.NewSource(28))
	for _, n := range []int{0, 1, 2, 3, 10, 100, 255, 256} {
		for range 6 {
			l := chunks(r, n)
			v, e := manifest.Of(1+r.Intn(api.Prime-1), l)
			if e != api.OK || manifest.Check(v) != api.OK {
				t.Fatalf("Of %d chunks: %v, %d", n, v, e)
			}
			wantSize(t, v, len(strings.Join(l, "")), api.OK)
			for range 3 {
				wantRestore(t, v, shuffled(r, l), strings.Join(l, ""), api.OK)
				wantRestore(t, v, shuffled(r, distinct(l)), strings.Join(l, ""), api.OK)
				wantRestore(t, v, shuffled(r, append(chunks(r, 50), l...)), strings.Join(l, ""), api.OK)
			}
			for i, s := range distinct(l) {
				if i < 10 {
					wantRestore(t, v, slices.DeleteFunc(shuffled(r, l), func(x string) bool { return x == s }), "", api.ErrNone)
				}
			}
		}
	}
}

// The consequences: a change the other way round is exchanged. What is new, and what both have, are the names of the second version.
func TestChangeBack(t *testing.T) {
	r := rand.New(rand.NewSource(29))
	for range 200 {
		l := chunks(r, 60)
		a, _ := manifest.Of(1, l[:20+r.Intn(30)])
		b, _ := manifest.Of(2, shuffled(r, l[r.Intn(30):]))
		more, less, e := manifest.Change(a, b)
		if e != api.OK {
			t.Fatalf("Change: %d", e)
		}
		wantChange(t, b, a, less, more, api.OK)
		for _, n := range b.Names {
			if slices.Contains(more, n) == slices.Contains(a.Names, n) || slices.Contains(less, n) {
				t.Errorf("Change(%v, %v): %v", a, b, n)
			}
		}
	}
}

// The consequences: decoded from its bytes, a version is itself.
func TestDecodeOfEncode(t *testing.T) {
	r := rand.New(rand.NewSource(30))
	l := rights()
	for range 100 {
		l = append(l, of(1+r.Intn(api.Prime-1), chunks(r, r.Intn(257))))
	}
	for _, v := range l {
		s, e := manifest.Encode(v)
		back, f := manifest.Decode(s)
		if e != api.OK || f != api.OK || !manifest.Same(v, back) {
			t.Errorf("%.200v: decoded %.200v, %d, %d", v, back, e, f)
		}
	}
}

// R1: bytes of all kinds are read without a panic, and what is read is valid and has these bytes.
func TestDecodeOfAnyBytes(t *testing.T) {
	r := rand.New(rand.NewSource(31))
	for range 20000 {
		b := []byte(encoded(of(1+r.Intn(300), chunks(r, r.Intn(4)))))
		for range r.Intn(4) {
			b[r.Intn(len(b))] = byte(r.Intn(256))
		}
		s := string(b)
		v, e := manifest.Decode(s)
		if e == api.OK {
			wantCheck(t, v, api.OK)
			wantEncode(t, v, s, api.OK)
		} else {
			wantDecode(t, s, api.Version{}, e)
		}
	}
}

// spareNames returns names with others in the spare capacity behind them, and all of both.
func spareNames(l []api.Name) ([]api.Name, []api.Name) {
	all := append(slices.Clone(l), api.Name{Digest: 3, Size: 1}, api.Name{Digest: -1, Size: 999}, api.Name{})
	return all[:len(l)], all
}

// R2: arguments stay as they are, also their spare capacity.
func TestArgumentsStay(t *testing.T) {
	r := rand.New(rand.NewSource(32))
	p := clashes()[1]
	for _, given := range [][]string{nil, chunks(r, 1), chunks(r, 20), {"b", "a", "b", "a"}, {p[1], p[0], p[1]}, {"b", "", "a"}, chunks(r, 256), chunks(r, 257)} {
		allTexts := append(slices.Clone(given), "spare", "", "a")
		l := allTexts[:len(given)]
		x, allX := spareNames(of(1, given).Names)
		other := of(1, shuffled(r, append(chunks(r, 3), given[len(given)/2:]...)))
		y, allY := spareNames(other.Names)
		beforeTexts, beforeX, beforeY := slices.Clone(allTexts), slices.Clone(allX), slices.Clone(allY)
		a, b := version(1, x...), version(2, y...)
		manifest.Check(a)
		manifest.Of(1, l)
		manifest.Size(a)
		manifest.Change(a, b)
		manifest.Change(b, a)
		manifest.Restore(a, l)
		manifest.Restore(b, l)
		manifest.Encode(a)
		manifest.Same(a, b)
		if !slices.Equal(allTexts, beforeTexts) || !slices.Equal(allX, beforeX) || !slices.Equal(allY, beforeY) {
			t.Errorf("%.200q: an argument has changed", given)
		}
	}
}

// shares reports whether two lists share memory, also that of their spare capacity.
func shares(a, b []api.Name) bool {
	if cap(a) == 0 || cap(b) == 0 {
		return false
	}
	const word = unsafe.Sizeof(api.Name{})
	x, y := uintptr(unsafe.Pointer(&a[:1][0])), uintptr(unsafe.Pointer(&b[:1][0]))
	return x < y+uintptr(cap(b))*word && y < x+uintptr(cap(a))*word
}

// sharesText reports whether two texts share memory.
func sharesText(a, b string) bool {
	x, y := uintptr(unsafe.Pointer(unsafe.StringData(a))), uintptr(unsafe.Pointer(unsafe.StringData(b)))
	return x < y+uintptr(len(b)) && y < x+uintptr(len(a))
}

// R2: results share no memory with arguments, nor among each other.
func TestResultsAreNew(t *testing.T) {
	r := rand.New(rand.NewSource(33))
	for _, n := range []int{1, 2, 3, 50, 256} {
		l, m := chunks(r, n), chunks(r, n)
		v, _ := manifest.Of(1, l)
		w, _ := manifest.Of(2, m)
		again, _ := manifest.Of(1, l)
		more, less, _ := manifest.Change(v, w)
		moreFromNone, lessFromNone, _ := manifest.Change(version(1), w)
		s, _ := manifest.Encode(v)
		back, _ := manifest.Decode(s)
		lists := [][]api.Name{v.Names, w.Names, again.Names, more, less, moreFromNone, lessFromNone, back.Names}
		for i, a := range lists {
			for _, b := range lists[:i] {
				if shares(a, b) {
					t.Errorf("%d chunks: two lists share memory", n)
				}
			}
		}
		text, _ := manifest.Restore(v, l)
		for _, x := range append(l, s) {
			if len(x) > 1 && sharesText(text, x) { // texts of one byte are constants of the language
				t.Errorf("%d chunks: the text shares memory", n)
			}
		}
	}
}

// R4: results do not depend on what was done with earlier ones.
func TestResultsStay(t *testing.T) {
	v := of(1, []string{"b", "a", "c"})
	for range 2 {
		got, _ := manifest.Of(1, []string{"b", "a", "c"})
		more, less, _ := manifest.Change(version(1), got)
		back, _ := manifest.Decode(encoded(v))
		wantChange(t, version(1), v, more, less, api.OK)
		wantOf(t, 1, []string{"b", "a", "c"}, v, api.OK)
		wantDecode(t, encoded(v), v, api.OK)
		for _, l := range [][]api.Name{got.Names, more, back.Names} {
			for i := range l {
				l[i] = api.Name{Digest: 99, Size: 99}
			}
		}
	}
}
