package chunk_test

import (
	"math"
	"math/big"
	"math/rand"
	"slices"
	"strings"
	"testing"
	"unsafe"

	"storagebarter/api"
	"storagebarter/chunk"
)

// cutting returns a cutting.
func cutting(least, most, window, modulus int) api.Cutting {
	return api.Cutting{Least: least, Most: most, Window: window, Modulus: modulus}
}

// fours cuts texts after each four bytes.
var fours = cutting(4, 6, 1, 1)

// cuttings returns valid cuttings: those at the bounds, and others.
func cuttings() []api.Cutting {
	return []api.Cutting{
		fours, cutting(4, 4, 1, 1), cutting(4, 4, 4, 1024), cutting(4, 5, 4, 2), cutting(4, 256, 1, 1), cutting(4, 256, 1, 1024), cutting(4, 256, 4, 1024), cutting(4, 256, 4, 7),
		cutting(5, 9, 1, 103), cutting(5, 9, 2, 3), cutting(8, 32, 5, 16), cutting(8, 64, 8, 13), cutting(16, 64, 1, 256), cutting(16, 40, 16, 10), cutting(63, 64, 3, 2), cutting(64, 64, 64, 1),
		cutting(200, 256, 200, 50), cutting(255, 256, 255, 2), cutting(256, 256, 1, 1), cutting(256, 256, 256, 1024),
	}
}

// noCuttings returns cuttings that are not valid: one beyond each bound of a valid one, and far beyond it.
func noCuttings() []api.Cutting {
	return []api.Cutting{
		{}, cutting(3, 6, 1, 1), cutting(3, 3, 1, 1), cutting(0, 6, 1, 1), cutting(-4, 6, 1, 1), cutting(math.MinInt, 6, 1, 1), cutting(math.MinInt, 6, math.MinInt, 1),
		cutting(7, 6, 1, 1), cutting(256, 255, 1, 1), cutting(257, 256, 1, 1), cutting(math.MaxInt, 6, 1, 1),
		cutting(4, 3, 1, 1), cutting(4, 0, 1, 1), cutting(4, -6, 1, 1), cutting(4, math.MinInt, 1, 1),
		cutting(4, 257, 1, 1), cutting(257, 257, 1, 1), cutting(4, math.MaxInt, 1, 1), cutting(math.MaxInt, math.MaxInt, 1, 1),
		cutting(4, 6, 0, 1), cutting(4, 6, -1, 1), cutting(4, 6, math.MinInt, 1), cutting(4, 6, 5, 1), cutting(4, 6, 6, 1), cutting(256, 256, 257, 1), cutting(4, 6, math.MaxInt, 1),
		cutting(4, 6, 1, 0), cutting(4, 6, 1, -1), cutting(4, 6, 1, math.MinInt), cutting(4, 6, 1, 1025), cutting(4, 6, 1, math.MaxInt),
	}
}

// texts returns texts of different lengths and bytes: the empty one, such as have long chunks, and others.
func texts() []string {
	l := []string{"", "a", "abc", "abcd", "abcde", "abcdefghij", "\u00e9\u4e16\u00e9", "\x80\xff\x00\xfe\x00", strings.Repeat("\x00", 300), strings.Repeat("\xff", 700), strings.Repeat("abc", 200)}
	r := rand.New(rand.NewSource(6))
	for n := range 40 {
		l = append(l, random(r, n), random(r, 20*n))
	}
	return l
}

// cuttable returns the texts that have no more chunks than are permitted.
func cuttable(c api.Cutting) []string {
	return slices.DeleteFunc(texts(), func(s string) bool { return len(s) > api.MaxChunks*c.Least })
}

func random(r *rand.Rand, n int) string {
	b := make([]byte, n)
	r.Read(b)
	return string(b)
}

// tooLong is a text above the limit.
var tooLong = strings.Repeat("x", api.MaxText+1)

// weight is the definition of the weight, in numbers without bounds.
func weight(text string, window int) int {
	w := new(big.Int)
	for place, from := 1, max(len(text)-window, 0); from+place <= len(text); place++ {
		w.Add(w, big.NewInt(int64(place)*(int64(text[from+place-1])+1)))
	}
	return int(w.Int64())
}

// cut is the definition of the chunks: byte after byte is added to one, until it ends.
func cut(text string, c api.Cutting) []string {
	var l []string
	var now []byte
	for _, b := range []byte(text) {
		now = append(now, b)
		if len(now) == c.Most || len(now) >= c.Least && weight(string(now[len(now)-c.Window:]), c.Window)%c.Modulus == 0 {
			l = append(l, string(now))
			now = nil
		}
	}
	if len(now) > 0 {
		l = append(l, string(now))
	}
	return l
}

// ends is the definition of the ends.
func ends(l []string) []int {
	var m []int
	for i := range l {
		m = append(m, len(strings.Join(l[:i+1], "")))
	}
	return m
}

func wantCheck(t *testing.T, c api.Cutting, e api.Errno) {
	t.Helper()
	if got := chunk.Check(c); got != e {
		t.Errorf("Check(%v) = %d, want %d", c, got, e)
	}
}

func wantWeight(t *testing.T, text string, window, w int) {
	t.Helper()
	if got := chunk.Weight(text, window); got != w {
		t.Errorf("Weight(%.20q, %d) = %d, want %d", text, window, got, w)
	}
}

// wantCut asks for the chunks, and for their ends.
func wantCut(t *testing.T, text string, c api.Cutting, l []string, e api.Errno) {
	t.Helper()
	if got, gotE := chunk.Cut(text, c); !slices.Equal(got, l) || gotE != e {
		t.Errorf("Cut(%.20q, %v) = %.400q, %d, want %.400q, %d", text, c, got, gotE, l, e)
	}
	if got, gotE := chunk.Ends(text, c); !slices.Equal(got, ends(l)) || gotE != e {
		t.Errorf("Ends(%.20q, %v) = %v, %d, want %v, %d", text, c, got, gotE, ends(l), e)
	}
}

func wantJoin(t *testing.T, l []string, text string, e api.Errno) {
	t.Helper()
	if got, gotE := chunk.Join(l); got != text || gotE != e {
		t.Errorf("Join of %d chunks = %.20q, %d bytes, %d, want %.20q, %d bytes, %d", len(l), got, len(got), gotE, text, len(text), e)
	}
}

func wantCommon(t *testing.T, a, b string, c api.Cutting, n int, e api.Errno) {
	t.Helper()
	for _, x := range [][2]string{{a, b}, {b, a}} {
		if got, gotE := chunk.Common(x[0], x[1], c); got != n || gotE != e {
			t.Errorf("Common(%.20q, %.20q, %v) = %d, %d, want %d, %d", x[0], x[1], c, got, gotE, n, e)
		}
	}
}

// P4.1: each bound of a valid cutting, and one beyond it.
func TestCheck(t *testing.T) {
	for _, c := range cuttings() {
		wantCheck(t, c, api.OK)
	}
	for _, c := range noCuttings() {
		wantCheck(t, c, api.ErrRange)
	}
}

// P4.1: a cutting is valid if each of its numbers is.
func TestCheckOfManyCuttings(t *testing.T) {
	for _, least := range []int{-1, 0, 3, 4, 5, 6, 255, 256, 257} {
		for _, most := range []int{-1, 0, 3, 4, 5, 6, 255, 256, 257} {
			for _, window := range []int{-1, 0, 1, 3, 4, 5, 6, 255, 256, 257} {
				for _, modulus := range []int{-1, 0, 1, 2, 1023, 1024, 1025} {
					e := api.ErrRange
					if 4 <= least && least <= most && most <= 256 && 1 <= window && window <= least && 1 <= modulus && modulus <= 1024 {
						e = api.OK
					}
					wantCheck(t, cutting(least, most, window, modulus), e)
				}
			}
		}
	}
}

// P4.1: the first of the last bytes has the place 1.
func TestWeight(t *testing.T) {
	for _, x := range []struct {
		text      string
		window, w int
	}{
		{"abcd", 1, 101}, {"abcd", 2, 100 + 2*101}, {"abcd", 3, 99 + 2*100 + 3*101}, {"abcd", 4, 98 + 2*99 + 3*100 + 4*101},
		{"\x00", 1, 1}, {"\x00\x00\x00", 3, 1 + 2 + 3}, {"\xff", 1, 256}, {"\xff\x00", 2, 256 + 2}, {"\x00\xff", 2, 1 + 2*256}, {"\u00e9", 2, 0xc3 + 1 + 2*(0xa9+1)},
	} {
		wantWeight(t, x.text, x.window, x.w)
	}
	for _, text := range texts() {
		for _, window := range []int{1, 2, 3, 4, 5, 16, 255, 256, 257, 1000} {
			wantWeight(t, text, window, weight(text, window))
		}
	}
}

// P4.1: a window of less than 1 has no bytes, and one longer than the text has all of them.
func TestWeightOfWindowsThatDoNotFit(t *testing.T) {
	for _, text := range append(texts(), tooLong) {
		for _, window := range []int{0, -1, -len(text), -len(text) - 1, math.MinInt, math.MinInt + 1} {
			wantWeight(t, text, window, 0)
		}
		for _, window := range []int{len(text) + 1, len(text) + 2, 2 * len(text), math.MaxInt, math.MaxInt - 1} {
			wantWeight(t, text, window, weight(text, len(text)))
		}
	}
	wantWeight(t, "", 1, 0)
}

// P4.2, and the chapter's example.
func TestCut(t *testing.T) {
	for _, x := range []struct {
		text string
		c    api.Cutting
		want []string
	}{
		{"abcdefghij", fours, []string{"abcd", "efgh", "ij"}},
		// No weight is a multiple, so that only the most bytes end a chunk.
		{"abcdefghij", cutting(4, 6, 4, 1024), []string{"abcdef", "ghij"}},
		// The last bytes of "abcd" weigh 1000 and 302, those of "abcde" 1010 and 305.
		{"abcdefghij", cutting(4, 6, 4, 1000), []string{"abcd", "efghij"}},
		{"abcdefghij", cutting(4, 6, 4, 500), []string{"abcd", "efghij"}},
		{"abcdefghij", cutting(4, 6, 4, 1010), []string{"abcde", "fghij"}},
		{"abcdefghij", cutting(4, 6, 2, 302), []string{"abcd", "efghij"}},
		{"abcdefghij", cutting(4, 6, 2, 305), []string{"abcde", "fghij"}},
		// Multiples before the least number of bytes end nothing; the first one from there on ends the chunk.
		{"aaabbbaa", cutting(4, 8, 1, 98), []string{"aaabbba", "a"}},
		{"aaaabbba", cutting(4, 8, 1, 98), []string{"aaaa", "bbba"}},
		{"bbbaabbbbbba", cutting(5, 6, 1, 98), []string{"bbbaa", "bbbbbb", "a"}},
		{"abcd\x00\xff\xffefgh\x00", cutting(4, 9, 1, 256), []string{"abcd\x00\xff", "\xffefgh\x00"}},
	} {
		wantCut(t, x.text, x.c, x.want, api.OK)
	}
}

// P4.2: the definition, for many texts and cuttings.
func TestCutOfManyTexts(t *testing.T) {
	for _, c := range cuttings() {
		for _, text := range texts() {
			want, e := cut(text, c), api.OK
			if len(want) > api.MaxChunks {
				want, e = nil, api.ErrLimit
			}
			wantCut(t, text, c, want, e)
		}
	}
}

// P4.2: texts of the least and the most bytes of a chunk, and of one byte less and more.
func TestCutOfShortTexts(t *testing.T) {
	for _, x := range []struct {
		least, most int
		n           int
		multiple    bool // every weight is one, or none is
		want        []int
	}{
		{4, 6, 0, true, nil}, {4, 6, 1, true, []int{1}}, {4, 6, 3, true, []int{3}}, {4, 6, 4, true, []int{4}}, {4, 6, 5, true, []int{4, 5}}, {4, 6, 8, true, []int{4, 8}}, {4, 6, 9, true, []int{4, 8, 9}},
		{4, 6, 0, false, nil}, {4, 6, 1, false, []int{1}}, {4, 6, 4, false, []int{4}}, {4, 6, 5, false, []int{5}}, {4, 6, 6, false, []int{6}}, {4, 6, 7, false, []int{6, 7}}, {4, 6, 12, false, []int{6, 12}}, {4, 6, 13, false, []int{6, 12, 13}},
		{4, 4, 3, false, []int{3}}, {4, 4, 4, false, []int{4}}, {4, 4, 5, false, []int{4, 5}},
		{256, 256, 255, true, []int{255}}, {256, 256, 256, true, []int{256}}, {256, 256, 257, true, []int{256, 257}},
		{4, 256, 255, false, []int{255}}, {4, 256, 256, false, []int{256}}, {4, 256, 257, false, []int{256, 257}},
	} {
		text := strings.Repeat("x", x.n)
		c := cutting(x.least, x.most, 1, 1)
		if !x.multiple {
			c.Modulus = api.MaxChunk * 4
		}
		var want []string
		at := 0
		for _, end := range x.want {
			want = append(want, text[at:end])
			at = end
		}
		wantCut(t, text, c, want, api.OK)
	}
}

// P4.2: a cutting that is not valid, whatever the text is.
func TestCutOfNoCuttings(t *testing.T) {
	for _, c := range noCuttings() {
		for _, text := range []string{"", "abc", "abcdefghij", tooLong[1:], tooLong} {
			wantCut(t, text, c, nil, api.ErrRange)
		}
	}
}

// P4.2: a text at the limit, which may have few chunks, and one above it.
func TestCutOfLongTexts(t *testing.T) {
	for _, most := range []int{64, 65, 128, 255, 256} {
		c := cutting(4, most, 1, 1024)
		wantCut(t, tooLong[1:], c, cut(tooLong[1:], c), api.OK)
		wantCut(t, tooLong[2:], c, cut(tooLong[2:], c), api.OK)
		wantCut(t, tooLong, c, nil, api.ErrLimit)
		wantCut(t, tooLong+tooLong, c, nil, api.ErrLimit)
	}
}

// P4.2: as many chunks as are permitted, whatever ends them, and one more.
func TestCutOfManyChunks(t *testing.T) {
	for _, x := range []struct {
		c    api.Cutting
		size int // of each chunk
	}{{fours, 4}, {cutting(4, 4, 1, 1024), 4}, {cutting(4, 5, 1, 1024), 5}, {cutting(16, 256, 1, 1), 16}, {cutting(4, 63, 1, 1024), 63}, {cutting(4, 64, 1, 1024), 64}} {
		most := api.MaxChunks * x.size
		for _, n := range []int{most - x.size, most - x.size + 1, most - 1, most} {
			wantCut(t, tooLong[:n], x.c, cut(tooLong[:n], x.c), api.OK)
		}
		for n := most + 1; n <= api.MaxText; n += x.size - 1 {
			wantCut(t, tooLong[:n], x.c, nil, api.ErrLimit)
		}
	}
}

// The consequences: all chunks but the last one have Least to Most bytes, and joined they are the text.
func TestChunksOfCut(t *testing.T) {
	for _, c := range cuttings() {
		for _, text := range cuttable(c) {
			l, e := chunk.Cut(text, c)
			if e != api.OK {
				t.Fatalf("Cut(%.20q, %v): %d", text, c, e)
			}
			wantJoin(t, l, text, api.OK)
			for i, s := range l {
				if len(s) < 1 || len(s) > c.Most || len(s) < c.Least && i < len(l)-1 {
					t.Errorf("Cut(%.20q, %v) has a chunk %d of %d bytes", text, c, i, len(s))
				}
			}
		}
	}
}

// The consequences: what is behind the end of a chunk is cut as if it were the whole text.
func TestCutBehindAnEnd(t *testing.T) {
	for _, c := range cuttings() {
		for _, text := range cuttable(c) {
			l, _ := chunk.Cut(text, c)
			m, _ := chunk.Ends(text, c)
			for i, end := range m {
				wantCut(t, text[end:], c, l[i+1:], api.OK)
			}
		}
	}
}

// P4.3: chunks are joined whatever they are, up to the limit.
func TestJoin(t *testing.T) {
	most := tooLong[1:]
	bytes := strings.Split(most, "")
	empty := make([]string, 1000)
	for _, x := range []struct {
		l    []string
		want string
	}{
		{nil, ""}, {[]string{}, ""}, {[]string{""}, ""}, {empty, ""}, {[]string{"a"}, "a"}, {[]string{"ab", "", "c\x00", "\xff"}, "abc\x00\xff"}, {[]string{"b", "a"}, "ba"},
		{[]string{most}, most}, {[]string{most[1:], "x"}, most}, {[]string{"x", most[1:]}, most}, {[]string{most[2:], "", "x", "", "x", ""}, most}, {append(empty, most), most}, {append([]string{most}, empty...), most}, {bytes, most},
	} {
		wantJoin(t, x.l, x.want, api.OK)
	}
	for _, l := range [][]string{
		{tooLong}, {most, "x"}, {"x", most}, {most, most}, {most[1:], "", "x", "", "x"}, {most, "", "x", "y"}, {tooLong, ""}, {"", tooLong}, {tooLong, tooLong}, {"ab", tooLong, "c"}, append(bytes, "x"), append(bytes[1:], "xx"), append([]string{tooLong}, empty...),
	} {
		wantJoin(t, l, "", api.ErrLimit)
	}
}

// P4.3: chunks in common are counted from the end.
func TestCommon(t *testing.T) {
	for _, x := range []struct {
		a, b string
		n    int
	}{
		// None.
		{"", "", 0}, {"abcd", "", 0}, {"abcdefgh", "abcdefgx", 0}, {"abcdefghi", "abcdefghj", 0}, {"abcdefgh", "abcdefghi", 0}, {"abcdefgh", "xefgh", 0}, {"abcdefgh", "efghabcd", 0}, {"abc", "abcd", 0},
		// Some, also where both are the same before the first ones that differ.
		{"abcdefghij", "zzzzefghij", 2}, {"abcdefghij", "abcdzzzzij", 1}, {"abcdefghijkl", "zzzzefghzzzzijkl", 1}, {"abcdij", "ij", 1}, {"xxxxabcdij", "abcdij", 2}, {"xxxxabcd", "yyyyzzzzabcd", 1}, {"abcdabcdabcd", "abcdabcd", 2}, {"\xff\xff\xff\xffabcd", "\x00\x00\x00\x00abcd", 1},
		// All.
		{"a", "a", 1}, {"abcd", "abcd", 1}, {"abcdefghij", "abcdefghij", 3}, {tooLong[:1024], tooLong[:1024], 256},
	} {
		wantCommon(t, x.a, x.b, fours, x.n, api.OK)
	}
}

// P4.3: what is in common depends on the cutting, not only on the bytes.
func TestCommonOfOtherCuttings(t *testing.T) {
	// Both end with "cdefgh", which is a chunk of one of them only.
	wantCommon(t, "abcdefgh", "xxxxxxcdefgh", cutting(4, 6, 1, 1024), 0, api.OK)
	wantCommon(t, "ababcdefgh", "xxxxxxcdefgh", cutting(4, 6, 1, 1024), 0, api.OK)
	wantCommon(t, "abcdefcdefgh", "xxxxxxcdefgh", cutting(4, 6, 1, 1024), 1, api.OK)
	wantCommon(t, "abcdefgh", "xxxxefgh", cutting(4, 4, 1, 1024), 1, api.OK)
	wantCommon(t, "abcdefgh", "xxxxefgh", cutting(8, 8, 1, 1), 0, api.OK)
}

// P4.3: the definition, for texts of which ends are the same.
func TestCommonOfManyTexts(t *testing.T) {
	r := rand.New(rand.NewSource(7))
	for _, c := range cuttings() {
		for range 30 {
			end := random(r, r.Intn(100*c.Least))
			a, b := random(r, r.Intn(50*c.Least))+end, random(r, r.Intn(50*c.Least))+end
			if len(a) > api.MaxText || len(b) > api.MaxText {
				continue
			}
			l, m := cut(a, c), cut(b, c)
			n := 0
			for n < min(len(l), len(m)) && slices.Equal(l[len(l)-n-1:], m[len(m)-n-1:]) {
				n++
			}
			wantCommon(t, a, b, c, n, api.OK)
			wantCommon(t, a, a, c, len(l), api.OK)
		}
	}
}

// The consequences: texts with the same bytes behind an end of a chunk of both have all chunks behind it in common.
func TestCommonBehindAnEnd(t *testing.T) {
	for _, c := range cuttings() {
		for _, text := range cuttable(c) {
			l, _ := chunk.Cut(text, c)
			m, _ := chunk.Ends(text, c)
			for i, end := range m {
				wantCommon(t, text, text[end:], c, len(l)-1-i, api.OK)
			}
		}
	}
}

// P4.3: the errors of Cut, for each of the texts.
func TestCommonErrors(t *testing.T) {
	many := tooLong[:4*api.MaxChunks+1]
	for _, c := range noCuttings() {
		for _, text := range []string{"", "abcd", many, tooLong} {
			wantCommon(t, text, text, c, 0, api.ErrRange)
			wantCommon(t, text, "", c, 0, api.ErrRange)
		}
	}
	for _, text := range []string{many, tooLong[1:], tooLong} {
		for _, other := range []string{"", "abcd", many, tooLong, text} {
			wantCommon(t, text, other, fours, 0, api.ErrLimit)
		}
	}
	wide := cutting(4, 256, 4, 1024)
	wantCommon(t, tooLong, "abcd", wide, 0, api.ErrLimit)
	wantCommon(t, many, "abcd", wide, 0, api.OK)
	wantCommon(t, tooLong[1:], tooLong[1:], wide, 64, api.OK)
}

// R2: no chunk, and no text of chunks, shares memory with what it was made of.
func TestNewMemory(t *testing.T) {
	text := strings.Repeat("abcd", 3)
	l, _ := chunk.Cut(text, fours)
	for i, s := range l {
		if unsafe.StringData(s) == unsafe.StringData(text[4*i:]) {
			t.Errorf("The chunk %d is not new memory", i)
		}
	}
	for _, m := range [][]string{l, l[:1], {"", l[0], ""}} {
		whole, _ := chunk.Join(m)
		if unsafe.StringData(whole) == unsafe.StringData(l[0]) {
			t.Error("A text of chunks is not new memory")
		}
	}
}

// R2: chunks that are joined, and what is behind them in their memory, are not changed.
func TestJoinChangesNothing(t *testing.T) {
	all := []string{"ab", "cd", "ef"}
	chunk.Join(all[:1])
	if want := []string{"ab", "cd", "ef"}; !slices.Equal(all, want) {
		t.Errorf("Join has changed its argument: %q", all)
	}
}
