package erasure_test

import (
	"math"
	"math/rand"
	"slices"
	"strings"
	"testing"
	"unsafe"

	"storagebarter/api"
	"storagebarter/erasure"
)

// powers is the powers of 2, from 0 to 14: the elements of the field but 0.
var powers = [15]byte{1, 2, 4, 8, 3, 6, 12, 11, 5, 10, 7, 14, 15, 13, 9}

// times is the product of two elements, by their logarithms.
func times(a, b byte) byte {
	if a == 0 || b == 0 {
		return 0
	}
	return powers[(slices.Index(powers[:], a)+slices.Index(powers[:], b))%15]
}

// inverse is the element whose product with another one, which is not 0, is 1.
func inverse(a byte) byte {
	return powers[(15-slices.Index(powers[:], a))%15]
}

// factor is the element of a Cauchy matrix by which the part k of the data counts in a shard behind them.
func factor(c api.Code, index, k int) byte {
	return inverse(byte((index - c.Need) ^ (c.All - c.Need + k)))
}

// long is the least length of which Need shards have room for some bytes.
func long(c api.Code, size int) int {
	n := 0
	for n*c.Need < size {
		n++
	}
	return n
}

// shardsOf is the definition of all shards of Need parts that are as long, one behind the other.
func shardsOf(c api.Code, whole string) []api.Shard {
	n := len(whole) / c.Need
	var l []api.Shard
	for i := range c.All {
		b := []byte(whole[min(i, c.Need-1)*n:][:n])
		for at := range b {
			if i < c.Need {
				continue
			}
			var lower, upper byte
			for k := range c.Need {
				x, f := whole[k*n+at], factor(c, i, k)
				lower ^= times(f, x%16)
				upper ^= times(f, x/16)
			}
			b[at] = 16*upper + lower
		}
		l = append(l, api.Shard{Index: i, Data: string(b)})
	}
	return l
}

// padded returns data with bytes behind it up to Need shards: zeros, or others.
func padded(c api.Code, data string, with byte) string {
	n := c.Need*long(c, len(data)) - len(data)
	return data + strings.Repeat(string([]byte{with}), n)
}

// encoded is the definition of the shards of data.
func encoded(c api.Code, data string) []api.Shard {
	return shardsOf(c, padded(c, data, 0))
}

// codes returns all valid codes.
func codes() []api.Code {
	var l []api.Code
	for all := 1; all <= 16; all++ {
		for need := 1; need <= all; need++ {
			l = append(l, api.Code{Need: need, All: all})
		}
	}
	return l
}

// noCodes returns codes that are not valid.
func noCodes() []api.Code {
	numbers := []int{0, 1, 2, 8, 15, 16, 17, 18, 32, 256, 257, -1, -2, -16, 1 << 32, 1<<32 + 1, 1 << 62, math.MinInt, math.MinInt + 1, math.MaxInt - 1, math.MaxInt}
	var l []api.Code
	for _, need := range numbers {
		for _, all := range numbers {
			if c := (api.Code{Need: need, All: all}); !slices.Contains(codes(), c) {
				l = append(l, c)
			}
		}
	}
	return l
}

// noSizes returns sizes that no data have.
func noSizes() []int {
	return []int{-1, -2, -3, -16, -1024, -1 << 31, -1 << 32, math.MinInt, math.MinInt + 1, math.MinInt + 15}
}

// greatSizes returns sizes of more than the shards of a code have room for.
func greatSizes(c api.Code) []int {
	room := c.Need * 1024
	return []int{room + 1, room + 2, room + c.Need, 2 * room, 1<<14 + 1, 1 << 31, 1 << 32, 1<<32 + 1, 1 << 62, math.MaxInt - 16, math.MaxInt - 15, math.MaxInt - 1, math.MaxInt}
}

// noIndices returns numbers that are no indices of shards.
func noIndices(c api.Code) []int {
	return []int{-1, -2, -16, c.All, c.All + 1, c.All + 16, 16, 17, 256, 1 << 32, 1 << 62, math.MinInt, math.MinInt + 1, math.MaxInt - 1, math.MaxInt}
}

// random returns n bytes.
func random(r *rand.Rand, n int) string {
	b := make([]byte, n)
	r.Read(b)
	return string(b)
}

// some returns n different shards, in any order.
func some(r *rand.Rand, l []api.Shard, n int) []api.Shard {
	var m []api.Shard
	for _, i := range r.Perm(len(l))[:n] {
		m = append(m, l[i])
	}
	return m
}

// changed returns shards of which the one at a place has another byte.
func changed(r *rand.Rand, l []api.Shard, at int) []api.Shard {
	m := slices.Clone(l)
	b := []byte(m[at].Data)
	b[r.Intn(len(b))] ^= byte(1 + r.Intn(255))
	m[at].Data = string(b)
	return m
}

// choices returns all choices of n shards, which keep their order.
func choices(l []api.Shard, n int) [][]api.Shard {
	if n == 0 {
		return [][]api.Shard{nil}
	}
	var all [][]api.Shard
	for last := n - 1; last < len(l); last++ {
		for _, m := range choices(l[:last], n-1) {
			all = append(all, append(slices.Clone(m), l[last]))
		}
	}
	return all
}

func wantCheck(t *testing.T, c api.Code, e api.Errno) {
	t.Helper()
	if got := erasure.Check(c); got != e {
		t.Errorf("Check(%v) = %d, want %d", c, got, e)
	}
}

func wantLength(t *testing.T, c api.Code, size, n int, e api.Errno) {
	t.Helper()
	if got, gotE := erasure.Length(c, size); got != n || gotE != e {
		t.Errorf("Length(%v, %d) = %d, %d, want %d, %d", c, size, got, gotE, n, e)
	}
}

func wantEncode(t *testing.T, c api.Code, data string, l []api.Shard, e api.Errno) {
	t.Helper()
	if got, gotE := erasure.Encode(c, data); !slices.Equal(got, l) || gotE != e {
		t.Errorf("Encode(%v, %.40q) = %.200v, %d, want %.200v, %d", c, data, got, gotE, l, e)
	}
}

func wantDecode(t *testing.T, c api.Code, size int, l []api.Shard, data string, e api.Errno) {
	t.Helper()
	if got, gotE := erasure.Decode(c, size, l); got != data || gotE != e {
		t.Errorf("Decode(%v, %d, %.200v) = %.40q, %d, want %.40q, %d", c, size, l, got, gotE, data, e)
	}
}

func wantRepair(t *testing.T, c api.Code, size int, l []api.Shard, index int, x api.Shard, e api.Errno) {
	t.Helper()
	if got, gotE := erasure.Repair(c, size, l, index); got != x || gotE != e {
		t.Errorf("Repair(%v, %d, %.200v, %d) = %.40v, %d, want %.40v, %d", c, size, l, index, got, gotE, x, e)
	}
}

func wantAgree(t *testing.T, c api.Code, size int, l []api.Shard, agree bool, e api.Errno) {
	t.Helper()
	if got, gotE := erasure.Agree(c, size, l); got != agree || gotE != e {
		t.Errorf("Agree(%v, %d, %.200v) = %v, %d, want %v, %d", c, size, l, got, gotE, agree, e)
	}
}

// wantError looks for an error in all that is made of shards: it comes before that of the index of Repair.
func wantError(t *testing.T, c api.Code, size int, l []api.Shard, e api.Errno) {
	t.Helper()
	wantDecode(t, c, size, l, "", e)
	wantAgree(t, c, size, l, false, e)
	for _, index := range []int{0, c.All - 1, -1, c.All, 99, math.MinInt, math.MaxInt} {
		wantRepair(t, c, size, l, index, api.Shard{}, e)
	}
}

// P7.1: all codes that are valid.
func TestCheck(t *testing.T) {
	wantCheck(t, api.Code{Need: 1, All: 1}, api.OK)
	wantCheck(t, api.Code{Need: 1, All: 16}, api.OK)
	wantCheck(t, api.Code{Need: 15, All: 16}, api.OK)
	wantCheck(t, api.Code{Need: 16, All: 16}, api.OK)
	for _, c := range codes() {
		wantCheck(t, c, api.OK)
	}
}

// P7.1: Need 0, below 0 or above All, and All above the limit.
func TestCheckErrors(t *testing.T) {
	wantCheck(t, api.Code{}, api.ErrRange)
	wantCheck(t, api.Code{Need: 1}, api.ErrRange)
	wantCheck(t, api.Code{All: 1}, api.ErrRange)
	wantCheck(t, api.Code{Need: 1, All: 17}, api.ErrRange)
	wantCheck(t, api.Code{Need: 17, All: 17}, api.ErrRange)
	wantCheck(t, api.Code{Need: -1, All: 16}, api.ErrRange)
	for all := range 17 {
		wantCheck(t, api.Code{Need: 0, All: all}, api.ErrRange)
		wantCheck(t, api.Code{Need: -1, All: all}, api.ErrRange)
		wantCheck(t, api.Code{Need: all + 1, All: all}, api.ErrRange)
		wantCheck(t, api.Code{Need: all, All: 17}, api.ErrRange)
	}
	for _, c := range noCodes() {
		wantCheck(t, c, api.ErrRange)
	}
}

// P7.1: all sizes of all codes, up to the limit and some beyond it.
func TestLength(t *testing.T) {
	wantLength(t, api.Code{Need: 2, All: 3}, 0, 0, api.OK)
	wantLength(t, api.Code{Need: 2, All: 3}, 1, 1, api.OK)
	wantLength(t, api.Code{Need: 2, All: 3}, 2, 1, api.OK)
	wantLength(t, api.Code{Need: 2, All: 3}, 3, 2, api.OK)
	wantLength(t, api.Code{Need: 16, All: 16}, 16384, 1024, api.OK)
	wantLength(t, api.Code{Need: 16, All: 16}, 16385, 0, api.ErrLimit)
	wantLength(t, api.Code{Need: 1, All: 16}, 1024, 1024, api.OK)
	wantLength(t, api.Code{Need: 1, All: 16}, 1025, 0, api.ErrLimit)
	for _, c := range codes() {
		size := 0
		wantLength(t, c, size, 0, api.OK)
		for n := 1; n <= 1024; n++ {
			for range c.Need {
				size++
				wantLength(t, c, size, n, api.OK)
			}
		}
		for range 2 * c.Need {
			size++
			wantLength(t, c, size, 0, api.ErrLimit)
		}
	}
}

// P7.1: the errors of Length, in their order.
func TestLengthErrors(t *testing.T) {
	for _, c := range codes() {
		for _, size := range noSizes() {
			wantLength(t, c, size, 0, api.ErrRange)
		}
		for _, size := range greatSizes(c) {
			wantLength(t, c, size, 0, api.ErrLimit)
		}
	}
	for _, c := range noCodes() {
		for _, size := range []int{0, 1, -1, 16, 1025, 1 << 20, math.MinInt, math.MaxInt} {
			wantLength(t, c, size, 0, api.ErrRange)
		}
	}
}

// P7.1: the chapter's example, and the definition for all codes, with sizes that Need divides and that it does not.
func TestEncode(t *testing.T) {
	wantEncode(t, api.Code{Need: 2, All: 3}, "abc", []api.Shard{{Index: 0, Data: "ab"}, {Index: 1, Data: "c\x00"}, {Index: 2, Data: "Yb"}}, api.OK)
	wantEncode(t, api.Code{Need: 1, All: 3}, "\x10\x01", []api.Shard{{Index: 0, Data: "\x10\x01"}, {Index: 1, Data: "\x90\x09"}, {Index: 2, Data: "\xe0\x0e"}}, api.OK)
	wantEncode(t, api.Code{Need: 3, All: 3}, "abcd", []api.Shard{{Index: 0, Data: "ab"}, {Index: 1, Data: "cd"}, {Index: 2, Data: "\x00\x00"}}, api.OK)
	wantEncode(t, api.Code{Need: 1, All: 1}, "abc", []api.Shard{{Index: 0, Data: "abc"}}, api.OK)
	wantEncode(t, api.Code{Need: 3, All: 4}, "a", []api.Shard{{Index: 0, Data: "a"}, {Index: 1, Data: "\x00"}, {Index: 2, Data: "\x00"}, {Index: 3, Data: string([]byte{16*times(inverse(1), 6) + times(inverse(1), 1)})}}, api.OK)
	r := rand.New(rand.NewSource(1))
	for _, c := range codes() {
		for size := range 3*c.Need + 2 {
			data := random(r, size)
			wantEncode(t, c, data, encoded(c, data), api.OK)
		}
	}
}

// P7.1: all bytes, in each part of the data alone and beside others.
func TestEncodeOfAllBytes(t *testing.T) {
	var b []byte
	for x := range 256 {
		b = append(b, byte(x))
	}
	r := rand.New(rand.NewSource(2))
	for _, c := range codes() {
		for k := range c.Need {
			zeros := make([]byte, 256*c.Need)
			copy(zeros[256*k:], b)
			wantEncode(t, c, string(zeros), encoded(c, string(zeros)), api.OK)
		}
		var all []byte
		for range c.Need {
			r.Shuffle(len(b), func(i, k int) { b[i], b[k] = b[k], b[i] })
			all = append(all, b...)
		}
		wantEncode(t, c, string(all), encoded(c, string(all)), api.OK)
		slices.Sort(b)
	}
}

// P7.1: shards that are as long as the limit, or not quite, and none that are longer.
func TestEncodeAtTheLimit(t *testing.T) {
	r := rand.New(rand.NewSource(3))
	for _, c := range codes() {
		data := random(r, 1024*c.Need)
		wantEncode(t, c, data, encoded(c, data), api.OK)
		l, e := erasure.Encode(c, data[1:])
		if len(l) != c.All || e != api.OK || len(l[c.All-1].Data) != long(c, len(data)-1) {
			t.Errorf("Encode(%v) of %d bytes: %d shards, %d", c, len(data)-1, len(l), e)
		}
		wantEncode(t, c, data+"x", nil, api.ErrLimit)
		wantEncode(t, c, data+strings.Repeat("x", c.Need), nil, api.ErrLimit)
		wantEncode(t, c, strings.Repeat("x", 1<<16), nil, api.ErrLimit)
	}
}

// P7.1: the shards of no data are empty.
func TestEncodeOfNoData(t *testing.T) {
	for _, c := range codes() {
		l, e := erasure.Encode(c, "")
		if len(l) != c.All || e != api.OK {
			t.Errorf("Encode(%v) of no data: %d shards, %d", c, len(l), e)
		}
		for i, x := range l {
			if x != (api.Shard{Index: i}) {
				t.Errorf("Encode(%v) of no data: %v at %d", c, x, i)
			}
		}
	}
}

// P7.1: the error of a code comes before that of the length.
func TestEncodeErrors(t *testing.T) {
	for _, c := range noCodes() {
		for _, data := range []string{"", "a", strings.Repeat("x", 1024), strings.Repeat("x", 1<<14+1)} {
			wantEncode(t, c, data, nil, api.ErrRange)
		}
	}
}

// The consequences, P7.2: any Need different shards are decoded to the data, in any order.
func TestDecode(t *testing.T) {
	r := rand.New(rand.NewSource(4))
	wantDecode(t, api.Code{Need: 2, All: 3}, 3, []api.Shard{{Index: 2, Data: "Yb"}, {Index: 1, Data: "c\x00"}}, "abc", api.OK)
	for _, c := range codes() {
		for _, size := range []int{0, 1, c.Need - 1, c.Need, c.Need + 1, 2*c.Need + 1 + r.Intn(c.Need)} {
			data := random(r, size)
			l := encoded(c, data)
			if c.All <= 8 {
				for _, m := range choices(l, c.Need) {
					wantDecode(t, c, size, m, data, api.OK)
					wantDecode(t, c, size, some(r, m, c.Need), data, api.OK)
				}
			}
			for range 5 {
				wantDecode(t, c, size, some(r, l, c.Need), data, api.OK)
			}
			wantDecode(t, c, size, l[:c.Need], data, api.OK)
			wantDecode(t, c, size, l[c.All-c.Need:], data, api.OK)
		}
	}
}

// P7.2: more shards than are needed, up to all of them.
func TestDecodeOfMoreThanNeed(t *testing.T) {
	r := rand.New(rand.NewSource(5))
	for _, c := range codes() {
		data := random(r, 3*c.Need-c.Need/2)
		l := encoded(c, data)
		for n := c.Need; n <= c.All; n++ {
			wantDecode(t, c, len(data), some(r, l, n), data, api.OK)
		}
		slices.Reverse(l)
		wantDecode(t, c, len(data), l, data, api.OK)
	}
}

// P7.2: shards that are as long as the limit.
func TestDecodeAtTheLimit(t *testing.T) {
	r := rand.New(rand.NewSource(6))
	for _, c := range codes() {
		data := random(r, 1024*c.Need)
		wantDecode(t, c, len(data), some(r, encoded(c, data), c.Need), data, api.OK)
		part := data[:1023*c.Need+1]
		wantDecode(t, c, len(part), some(r, encoded(c, part), c.Need), part, api.OK)
	}
}

// P7.2: only the shards with the least indices are used, wherever they stand; the others may be anything that is as long.
func TestDecodeUsesTheLeast(t *testing.T) {
	r := rand.New(rand.NewSource(7))
	for _, c := range codes() {
		data := random(r, 2*c.Need)
		l := encoded(c, data)
		for n := c.Need + 1; n <= c.All; n++ {
			m := some(r, l, n)
			slices.SortFunc(m, func(a, b api.Shard) int { return a.Index - b.Index })
			right := m[:c.Need]
			for i := c.Need; i < n; i++ {
				m[i].Data = random(r, 2)
			}
			wantDecode(t, c, len(data), some(r, m, n), data, api.OK)
			wantDecode(t, c, len(data), right, data, api.OK)
			slices.Reverse(m)
			wantDecode(t, c, len(data), m, data, api.OK)
		}
	}
}

// P7.2: any shards of the right form are those of some data, which a wrong shard among those that are used changes.
func TestDecodeOfAnyShards(t *testing.T) {
	r := rand.New(rand.NewSource(8))
	for _, c := range codes() {
		for range 5 {
			m := some(r, encoded(c, random(r, 3*c.Need)), c.Need)
			for i := range m {
				m[i].Data = random(r, 3)
			}
			data, e := erasure.Decode(c, 3*c.Need, m)
			if len(data) != 3*c.Need || e != api.OK {
				t.Fatalf("Decode(%v, %d, %v) = %q, %d", c, 3*c.Need, m, data, e)
			}
			l := shardsOf(c, data)
			for _, x := range m {
				if l[x.Index] != x {
					t.Errorf("Decode(%v, %d, %v) = %q, of which the shard %d is %q", c, 3*c.Need, m, data, x.Index, l[x.Index].Data)
				}
			}
			other, e := erasure.Decode(c, 3*c.Need, changed(r, m, r.Intn(c.Need)))
			if other == data || len(other) != len(data) || e != api.OK {
				t.Errorf("Decode(%v) of a changed shard = %q, %d", c, other, e)
			}
		}
	}
}

// P7.2: bytes behind the size, whatever they are, do not count.
func TestDecodeDoesNotLookBehindTheSize(t *testing.T) {
	wantDecode(t, api.Code{Need: 2, All: 3}, 3, []api.Shard{{Index: 0, Data: "ab"}, {Index: 1, Data: "cX"}}, "abc", api.OK)
	r := rand.New(rand.NewSource(9))
	for _, c := range codes() {
		for size := range 2*c.Need + 1 {
			data := random(r, size)
			l := shardsOf(c, padded(c, data, byte(1+r.Intn(255))))
			for range 3 {
				wantDecode(t, c, size, some(r, l, c.Need), data, api.OK)
			}
			wantDecode(t, c, size, l, data, api.OK)
		}
	}
}

// P7.2: the errors of Length come before those of the shards.
func TestShardsOfNoLength(t *testing.T) {
	for _, c := range codes() {
		for _, l := range [][]api.Shard{nil, {}, {{Index: -1}}, {{Index: c.All, Data: "x"}}, {{Data: "x"}}, {{}, {}}, encoded(c, "abc"), encoded(c, "")} {
			for _, size := range noSizes() {
				wantError(t, c, size, l, api.ErrRange)
			}
			for _, size := range greatSizes(c) {
				wantError(t, c, size, l, api.ErrLimit)
			}
		}
		wantError(t, c, 1024*c.Need+1, []api.Shard{{Data: strings.Repeat("x", 1025)}}, api.ErrLimit)
	}
	for _, c := range noCodes() {
		for _, size := range []int{0, 3, -1, math.MinInt, math.MaxInt} {
			wantError(t, c, size, nil, api.ErrRange)
			wantError(t, c, size, []api.Shard{{Data: "abc"}, {Data: "abc"}, {Index: -1}}, api.ErrRange)
		}
	}
}

// P7.2: fewer shards than Need, and none.
func TestTooFewShards(t *testing.T) {
	r := rand.New(rand.NewSource(10))
	for _, c := range codes() {
		for _, size := range []int{0, 1, c.Need, 3*c.Need - 1} {
			l := encoded(c, random(r, size))
			wantError(t, c, size, nil, api.ErrRank)
			wantError(t, c, size, []api.Shard{}, api.ErrRank)
			for n := range c.Need {
				wantError(t, c, size, l[:n], api.ErrRank)
				wantError(t, c, size, some(r, l, n), api.ErrRank)
			}
		}
	}
}

// P7.2: an index of no shard, at each place among right shards, comes before all errors of its shard and of those behind it.
func TestIndexOutOfRange(t *testing.T) {
	r := rand.New(rand.NewSource(11))
	for _, c := range codes() {
		l := encoded(c, random(r, 2*c.Need))
		for _, index := range noIndices(c) {
			for _, data := range []string{"ab", "", "abc"} {
				x := api.Shard{Index: index, Data: data}
				at := r.Intn(c.All + 1)
				wantError(t, c, 2*c.Need, []api.Shard{x}, api.ErrRange)
				wantError(t, c, 2*c.Need, []api.Shard{x, {Index: 0, Data: "abc"}}, api.ErrRange)
				wantError(t, c, 2*c.Need, []api.Shard{x, l[0], l[0]}, api.ErrRange)
				wantError(t, c, 2*c.Need, append(slices.Clone(l), x), api.ErrRange)
				wantError(t, c, 2*c.Need, append(slices.Clone(l), x, x), api.ErrRange)
				wantError(t, c, 2*c.Need, slices.Insert(slices.Clone(l), at, x), api.ErrRange)
			}
		}
	}
}

// P7.2: Data of another length, at each place among right shards, comes before an index that is twice, and before all errors of the shards behind it.
func TestDataOfAnotherLength(t *testing.T) {
	r := rand.New(rand.NewSource(12))
	for _, c := range codes() {
		for _, size := range []int{0, 1, 2 * c.Need, 3*c.Need - c.Need/2, 1024 * c.Need} {
			l := encoded(c, random(r, size))
			n := len(l[0].Data)
			for _, other := range []int{0, n - 1, n + 1, 2 * n, size, 1025} {
				if other == n || other < 0 {
					continue
				}
				x := api.Shard{Index: r.Intn(c.All), Data: random(r, other)}
				m := slices.Clone(l)
				m[x.Index] = x
				wantError(t, c, size, []api.Shard{x}, api.ErrForm)
				wantError(t, c, size, []api.Shard{x, {Index: -1}}, api.ErrForm)
				wantError(t, c, size, []api.Shard{x, l[0], l[0]}, api.ErrForm)
				wantError(t, c, size, m, api.ErrForm)
				wantError(t, c, size, some(r, m, c.All), api.ErrForm)
				wantError(t, c, size, append(slices.Clone(l), x), api.ErrForm)
				wantError(t, c, size, append(slices.Clone(l), x, api.Shard{Index: c.All}), api.ErrForm)
			}
		}
	}
}

// P7.2: an index that is twice, with the same bytes or others, also where there are too few shards, comes before all errors of the shards behind it.
func TestIndexTwice(t *testing.T) {
	r := rand.New(rand.NewSource(13))
	for _, c := range codes() {
		for _, size := range []int{0, 1, 2 * c.Need} {
			l := encoded(c, random(r, size))
			for _, x := range l {
				y := api.Shard{Index: x.Index, Data: random(r, len(x.Data))}
				wantError(t, c, size, []api.Shard{x, x}, api.ErrTwice)
				wantError(t, c, size, []api.Shard{x, y}, api.ErrTwice)
				wantError(t, c, size, []api.Shard{x, x, {Index: -1}}, api.ErrTwice)
				wantError(t, c, size, []api.Shard{x, x, {Data: x.Data + "x"}}, api.ErrTwice)
				wantError(t, c, size, append(slices.Clone(l), x), api.ErrTwice)
				wantError(t, c, size, append(some(r, l, c.All), y), api.ErrTwice)
				wantError(t, c, size, slices.Insert(slices.Clone(l), 0, y), api.ErrTwice)
			}
			wantError(t, c, size, slices.Concat(l, l), api.ErrTwice)
		}
	}
}

// The consequences, P7.3: a shard that was lost comes from any others; one that is there comes too.
func TestRepair(t *testing.T) {
	r := rand.New(rand.NewSource(14))
	wantRepair(t, api.Code{Need: 2, All: 3}, 3, []api.Shard{{Index: 2, Data: "Yb"}, {Index: 0, Data: "ab"}}, 1, api.Shard{Index: 1, Data: "c\x00"}, api.OK)
	for _, c := range codes() {
		for _, size := range []int{0, 1, 2 * c.Need, 2*c.Need + 1} {
			l := encoded(c, random(r, size))
			for lost, x := range l {
				others := slices.Delete(slices.Clone(l), lost, lost+1)
				if c.All > c.Need {
					wantRepair(t, c, size, some(r, others, c.Need), lost, x, api.OK)
					wantRepair(t, c, size, others, lost, x, api.OK)
				}
				wantRepair(t, c, size, some(r, l, c.Need), lost, x, api.OK)
				wantRepair(t, c, size, l, lost, x, api.OK)
			}
		}
	}
}

// P7.3: what Repair returns is a shard of the data, whatever stood at its index or behind the size.
func TestRepairOfWrongShards(t *testing.T) {
	wantRepair(t, api.Code{Need: 2, All: 3}, 3, []api.Shard{{Index: 0, Data: "ab"}, {Index: 1, Data: "cX"}}, 1, api.Shard{Index: 1, Data: "c\x00"}, api.OK)
	r := rand.New(rand.NewSource(15))
	for _, c := range codes() {
		for size := range 2*c.Need + 1 {
			data := random(r, size)
			right := encoded(c, data)
			l := shardsOf(c, padded(c, data, byte(1+r.Intn(255))))
			for i, x := range right {
				wantRepair(t, c, size, some(r, l, c.Need), i, x, api.OK)
			}
			if size == 0 || c.All == c.Need {
				continue
			}
			at := c.Need + r.Intn(c.All-c.Need)
			wantRepair(t, c, size, changed(r, right, at), at, right[at], api.OK)
			m := changed(r, right, r.Intn(c.Need))
			other, _ := erasure.Decode(c, size, m)
			wantRepair(t, c, size, m, at, encoded(c, other)[at], api.OK)
		}
	}
}

// P7.3: the index of Repair is out of range, and nothing else is wrong.
func TestRepairErrors(t *testing.T) {
	r := rand.New(rand.NewSource(16))
	for _, c := range codes() {
		for _, size := range []int{0, 1, 2*c.Need - 1} {
			l := encoded(c, random(r, size))
			for _, index := range noIndices(c) {
				wantRepair(t, c, size, l[c.All-c.Need:], index, api.Shard{}, api.ErrRange)
			}
			wantRepair(t, c, size, l, c.All, api.Shard{}, api.ErrRange)
		}
	}
}

// P7.3: right shards agree, in any order, as soon as there are Need of them.
func TestAgree(t *testing.T) {
	r := rand.New(rand.NewSource(17))
	for _, c := range codes() {
		for _, size := range []int{0, 1, 2*c.Need - 1, 2 * c.Need, 2*c.Need + 1} {
			l := encoded(c, random(r, size))
			for n := c.Need; n <= c.All; n++ {
				wantAgree(t, c, size, some(r, l, n), true, api.OK)
			}
			wantAgree(t, c, size, l, true, api.OK)
		}
	}
	for _, c := range []api.Code{{Need: 1, All: 1}, {Need: 1, All: 16}, {Need: 2, All: 3}, {Need: 8, All: 16}, {Need: 15, All: 16}, {Need: 16, All: 16}} {
		l := encoded(c, random(r, 1024*c.Need))
		wantAgree(t, c, 1024*c.Need, some(r, l, c.All), true, api.OK)
	}
}

// The consequences, P7.3: where there are more shards than Need, a change of any of them is seen.
func TestAgreeOfAChangedShard(t *testing.T) {
	r := rand.New(rand.NewSource(18))
	for _, c := range codes() {
		for _, size := range []int{1, 2*c.Need - 1, 2 * c.Need, 2*c.Need + 1} {
			l := encoded(c, random(r, size))
			for n := c.Need + 1; n <= c.All; n++ {
				m := some(r, l, n)
				for at := range m {
					wantAgree(t, c, size, changed(r, m, at), false, api.OK)
				}
			}
		}
	}
}

// P7.3: each bit of each shard counts.
func TestAgreeOfAChangedBit(t *testing.T) {
	for _, c := range []api.Code{{Need: 1, All: 2}, {Need: 2, All: 3}, {Need: 2, All: 5}, {Need: 4, All: 6}, {Need: 15, All: 16}, {Need: 1, All: 16}} {
		data := strings.Repeat("q", 2*c.Need)
		l := encoded(c, data)
		for i := range l {
			for bit := range 16 {
				b := []byte(l[i].Data)
				b[bit/8] ^= 1 << (bit % 8)
				m := slices.Clone(l)
				m[i].Data = string(b)
				wantAgree(t, c, len(data), m, false, api.OK)
			}
		}
	}
}

// P7.3: just Need shards always agree where they have no room behind the size; where they have, there must be 0.
func TestAgreeOfNeedShards(t *testing.T) {
	wantAgree(t, api.Code{Need: 2, All: 3}, 3, []api.Shard{{Index: 0, Data: "ab"}, {Index: 1, Data: "cX"}}, false, api.OK)
	wantAgree(t, api.Code{Need: 2, All: 3}, 4, []api.Shard{{Index: 0, Data: "ab"}, {Index: 1, Data: "cX"}}, true, api.OK)
	r := rand.New(rand.NewSource(19))
	for _, c := range codes() {
		m := some(r, encoded(c, random(r, 2*c.Need)), c.Need)
		for i := range m {
			m[i].Data = random(r, 2)
		}
		wantAgree(t, c, 2*c.Need, m, true, api.OK)
		for size := c.Need + 1; size < 2*c.Need; size++ {
			data := random(r, size)
			for n := c.Need; n <= c.All; n++ {
				wantAgree(t, c, size, some(r, shardsOf(c, padded(c, data, 0)), n), true, api.OK)
				wantAgree(t, c, size, some(r, shardsOf(c, padded(c, data, byte(1+r.Intn(255)))), n), false, api.OK)
			}
		}
	}
}

// R2: lists of shards stay as they are, also their spare capacity.
func TestArgumentsStay(t *testing.T) {
	r := rand.New(rand.NewSource(20))
	for _, c := range codes() {
		l := encoded(c, random(r, 2*c.Need-1))
		for _, m := range [][]api.Shard{some(r, l, c.All), some(r, l, c.Need), l[:c.Need-1], append(some(r, l, c.All), l[0])} {
			all := append(slices.Clone(m), api.Shard{Index: 99, Data: "spare"}, api.Shard{Index: -1}, api.Shard{})
			before := slices.Clone(all)
			for index := -1; index <= c.All; index++ {
				erasure.Repair(c, 2*c.Need-1, all[:len(m)], index)
			}
			erasure.Decode(c, 2*c.Need-1, all[:len(m)])
			erasure.Agree(c, 2*c.Need-1, all[:len(m)])
			if !slices.Equal(all, before) {
				t.Errorf("%v: an argument has changed: %v, was %v", c, all, before)
			}
		}
	}
}

// shares reports whether two texts share memory.
func shares(a, b string) bool {
	x, y := uintptr(unsafe.Pointer(unsafe.StringData(a))), uintptr(unsafe.Pointer(unsafe.StringData(b)))
	return x < y+uintptr(len(b)) && y < x+uintptr(len(a))
}

// R2: results share no memory with arguments, nor among each other, and are new with every call. (Texts of one byte are constants of the language.)
func TestResultsAreNew(t *testing.T) {
	r := rand.New(rand.NewSource(21))
	for _, c := range codes() {
		data := random(r, 4*c.Need)
		l, _ := erasure.Encode(c, data)
		for i, x := range l {
			for k, y := range l {
				if shares(x.Data, data) || i != k && shares(x.Data, y.Data) {
					t.Errorf("Encode(%v): the shards %d and %d are not new", c, i, k)
				}
			}
		}
		back, _ := erasure.Decode(c, len(data), l)
		x, _ := erasure.Repair(c, len(data), l, c.All-1)
		for _, y := range l {
			if shares(back, y.Data) || shares(x.Data, y.Data) {
				t.Errorf("%v: a result shares memory with the shard %d", c, y.Index)
			}
		}
		for i := range l {
			l[i] = api.Shard{Index: 99, Data: "x"}
		}
		wantEncode(t, c, data, encoded(c, data), api.OK)
	}
}
