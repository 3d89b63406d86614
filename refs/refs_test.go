package refs_test

import (
	"fmt"
	"maps"
	"math"
	"math/rand"
	"slices"
	"strings"
	"testing"
	"unsafe"

	"storagebarter/api"
	"storagebarter/digest"
	"storagebarter/refs"
)

// Texts with the least and the greatest digests: 0, 2, api.Prime - 2 and api.Prime - 1. The empty text has 1.
const (
	sum0         = "x\x8e\xc6\xb5\b\xf5"
	sum2         = "x\x8e\xc6\xb5\b\xf7"
	sumNextLast  = "x\x8e\xc6\xb5\b\xf3"
	sumLast      = "x\x8e\xc6\xb5\b\xf4"
	alsoSumEmpty = "x\x8e\xc6\xb5\b\xf6"
)

// Two texts with one digest that differ in length.
const (
	longer  = "mgovdkrs"
	shorter = "qggaqep"
)

// clashes returns pairs of different texts with one digest: short ones, one of them empty, and as long as the limit.
func clashes() [][2]string {
	short := [][2]string{{"\x25\x00\x1a\x70", "\x00\x5c\x00\x00"}, {"rwcytzn", "uvofjea"}, {"fteaqexn", "lxmziwwo"}, {longer, shorter}, {"", alsoSumEmpty}}
	l := slices.Clone(short)
	for _, p := range short {
		behind := strings.Repeat("x", api.MaxText-max(len(p[0]), len(p[1])))
		l = append(l, [2]string{p[0] + "x", p[1] + "x"}, [2]string{p[0] + behind, p[1] + behind})
	}
	return l
}

// edgeTexts returns texts with digests next to the least and the greatest one, and texts next to the limit.
func edgeTexts() []string {
	l := []string{"", sum0, sum2, sumNextLast, sumLast, "x", "\x00", "\xff", "ä", "a\nb", longer}
	for _, n := range []int{2, 63, 64, 255, 256, 1024, 8191, 8192, api.MaxText - 2, api.MaxText - 1, api.MaxText} {
		l = append(l, strings.Repeat("x", n), strings.Repeat("\x00", n))
	}
	return l
}

// tooLong returns texts above the limit.
func tooLong() []string {
	var l []string
	for _, n := range []int{api.MaxText + 1, api.MaxText + 2, 2 * api.MaxText, 2*api.MaxText + 1, 1 << 16, 1 << 20} {
		l = append(l, strings.Repeat("x", n), strings.Repeat("\x00", n))
	}
	return l
}

// counts returns numbers that a content can be counted.
func counts() []int {
	return []int{1, 2, 3, 127, 128, 1 << 16, 1 << 30, api.Prime - 3, api.Prime - 2, api.Prime - 1}
}

// noCounts returns numbers that no content is counted, also some that have the lower bits of one.
func noCounts() []int {
	return []int{0, -1, -2, -api.Prime, 1 - api.Prime, api.Prime, api.Prime + 1, 1 << 31, 1 << 32, 1<<32 + 1, 1<<62 + 1, math.MinInt, math.MinInt + 1, math.MaxInt - 1, math.MaxInt}
}

// ints returns numbers next to digests, and any others.
func ints() []int {
	return []int{0, 1, 2, 3, 1 << 16, 1 << 30, api.Prime - 3, api.Prime - 2, api.Prime - 1, -1, -2, -api.Prime, 1 - api.Prime, api.Prime, api.Prime + 1, 2*api.Prime - 1, 2 * api.Prime, 1 << 31, 1 << 32, 1<<32 + 1, 1 << 62, math.MinInt, math.MinInt + 1, math.MaxInt - 1, math.MaxInt}
}

// counted is the definition of the row of a text.
func counted(s string, n int) api.Row {
	return api.Row{Digest: digest.Sum(s), Count: n, Text: s}
}

// index returns an index with just these rows, as they are.
func index(l ...api.Row) api.Index {
	return api.Index{Rows: l}
}

// of is the definition of the index in which texts are counted so often: a row for each text, put where it belongs.
func of(m map[string]int) api.Index {
	var l []api.Row
	for s, n := range m {
		r := counted(s, n)
		at := 0
		for at < len(l) && l[at].Digest < r.Digest {
			at++
		}
		l = slices.Insert(l, at, r)
	}
	return index(l...)
}

// texts returns n different short texts, of which no two have one digest.
func texts(n int) []string {
	var l []string
	for i := range n {
		l = append(l, fmt.Sprint("t", i))
	}
	return l
}

// each returns how often texts are counted, if each is counted n times.
func each(l []string, n int) map[string]int {
	m := map[string]int{}
	for _, s := range l {
		m[s] = n
	}
	return m
}

// many returns an index of n texts with different counts.
func many(n int) api.Index {
	m := map[string]int{}
	for i, s := range texts(n) {
		m[s] = 1 + i%5
	}
	return of(m)
}

// longest returns an index that has as many rows as it can, with texts and counts as great as they can be.
func longest() api.Index {
	var l []string
	for i := range api.MaxRows {
		l = append(l, fmt.Sprintf("%s%04d", strings.Repeat("x", api.MaxText-4), i))
	}
	return of(each(l, api.Prime-1))
}

// with returns an index whose row at a place is another one.
func with(x api.Index, at int, r api.Row) api.Index {
	l := slices.Clone(x.Rows)
	l[at] = r
	return index(l...)
}

// clone returns the same rows in new memory, or none.
func clone(x api.Index) api.Index {
	return index(slices.Clone(x.Rows)...)
}

// rights returns indexes that are valid: at the limits, and others.
func rights() []api.Index {
	l := []api.Index{{}, {Rows: []api.Row{}}, of(each(edgeTexts(), 1)), of(each(edgeTexts(), api.Prime-1))}
	for _, s := range edgeTexts() {
		for _, n := range counts() {
			l = append(l, index(counted(s, n)))
		}
	}
	for _, n := range []int{2, 3, 10, 1022, 1023, 1024} {
		l = append(l, many(n))
	}
	return l
}

// noRows returns rows that are not valid: the digest, the count, the text, or more of them.
func noRows() []api.Row {
	var l []api.Row
	for _, s := range []string{"", sum0, sum2, sumNextLast, sumLast, "x", "abc", strings.Repeat("x", api.MaxText)} {
		for _, n := range noCounts() {
			l = append(l, counted(s, n), api.Row{Digest: digest.Sum(s) + 1, Count: n, Text: s})
		}
		for _, d := range append(ints(), digest.Sum(s)-1, digest.Sum(s)+1, digest.Sum(s)-api.Prime, digest.Sum(s)+api.Prime, digest.Sum(s)+1<<32, -digest.Sum(s)) {
			if d != digest.Sum(s) {
				l = append(l, api.Row{Digest: d, Count: 1, Text: s}, api.Row{Digest: d, Count: api.Prime - 1, Text: s}, api.Row{Digest: d, Text: s})
			}
		}
	}
	for _, s := range tooLong() {
		l = append(l, counted(s, 1), counted(s, api.Prime-1), counted(s, 0), api.Row{Digest: 1, Count: 1, Text: s})
	}
	return l
}

// unordered returns indexes of valid rows that are out of order, or with a digest that is there twice.
func unordered() []api.Index {
	a, b, c := counted("", 1), counted("b", 2), counted("x", 3) // ascending
	l := []api.Index{index(b, a), index(c, a), index(c, b, a), index(a, c, b), index(b, a, c), index(b, c, a), index(c, a, b), index(a, a), index(a, a, b), index(a, b, b), index(a, b, c, c), index(a, b, a), index(b, counted("b", 1)), index(counted(sumLast, 1), counted(sum0, 1))}
	for _, p := range clashes() {
		l = append(l, index(counted(p[0], 1), counted(p[1], 1)), index(counted(p[1], 1), counted(p[0], 1)))
	}
	x := many(1024)
	for _, at := range []int{0, 1, 500, 1022} {
		l = append(l, with(with(x, at, x.Rows[at+1]), at+1, x.Rows[at]), with(x, at, x.Rows[at+1]))
	}
	return l
}

// wrongs returns indexes that are not valid.
func wrongs() []api.Index {
	l := unordered()
	three := many(3)
	for _, r := range noRows() {
		l = append(l, index(r), with(three, 0, r), with(three, 1, r), with(three, 2, r))
	}
	for _, n := range []int{1025, 1026, 2048, 5000} {
		l = append(l, many(n), index(make([]api.Row, n)...))
	}
	return l
}

// show returns how many rows an index has, and the first of them.
func show(x api.Index) string {
	s := fmt.Sprintf("%d rows:", len(x.Rows))
	for _, r := range x.Rows[:min(5, len(x.Rows))] {
		s += fmt.Sprintf(" {%d %d %.20q}", r.Digest, r.Count, r.Text)
	}
	return s
}

func same(a, b api.Index) bool {
	return slices.Equal(a.Rows, b.Rows)
}

func wantCheck(t *testing.T, x api.Index, e api.Errno) {
	t.Helper()
	if got := refs.Check(x); got != e {
		t.Errorf("Check(%s) = %d, want %d", show(x), got, e)
	}
}

func wantAdd(t *testing.T, x api.Index, text string, y api.Index, isNew bool, e api.Errno) {
	t.Helper()
	if got, gotNew, gotE := refs.Add(x, text); !same(got, y) || gotNew != isNew || gotE != e {
		t.Errorf("Add(%s, %.40q) = %s, %v, %d, want %s, %v, %d", show(x), text, show(got), gotNew, gotE, show(y), isNew, e)
	}
}

func wantDrop(t *testing.T, x api.Index, d int, y api.Index, gone bool, e api.Errno) {
	t.Helper()
	if got, gotGone, gotE := refs.Drop(x, d); !same(got, y) || gotGone != gone || gotE != e {
		t.Errorf("Drop(%s, %d) = %s, %v, %d, want %s, %v, %d", show(x), d, show(got), gotGone, gotE, show(y), gone, e)
	}
}

func wantGet(t *testing.T, x api.Index, d int, text string, n int, e api.Errno) {
	t.Helper()
	if got, gotN, gotE := refs.Get(x, d); got != text || gotN != n || gotE != e {
		t.Errorf("Get(%s, %d) = %.40q, %d, %d, want %.40q, %d, %d", show(x), d, got, gotN, gotE, text, n, e)
	}
}

func wantTotal(t *testing.T, x api.Index, single, all int, e api.Errno) {
	t.Helper()
	if gotSingle, gotAll, gotE := refs.Total(x); gotSingle != single || gotAll != all || gotE != e {
		t.Errorf("Total(%s) = %d, %d, %d, want %d, %d, %d", show(x), gotSingle, gotAll, gotE, single, all, e)
	}
}

func wantSame(t *testing.T, a, b api.Index, want bool) {
	t.Helper()
	if refs.Same(a, b) != want || refs.Same(b, a) != want {
		t.Errorf("Same(%s, %s), or the other way round, is not %v", show(a), show(b), want)
	}
}

// What the tests of clashes and of edges rest on.
func TestTexts(t *testing.T) {
	for _, p := range clashes() {
		if p[0] == p[1] || digest.Sum(p[0]) != digest.Sum(p[1]) || len(p[0]) > api.MaxText || len(p[1]) > api.MaxText {
			t.Errorf("%.40q, %.40q: no clash", p[0], p[1])
		}
	}
	for s, d := range map[string]int{sum0: 0, "": 1, alsoSumEmpty: 1, sum2: 2, sumNextLast: api.Prime - 2, sumLast: api.Prime - 1} {
		if digest.Sum(s) != d {
			t.Errorf("digest.Sum(%q) = %d", s, digest.Sum(s))
		}
	}
}

// P9.1: indexes at the limits and between them.
func TestCheck(t *testing.T) {
	for _, x := range rights() {
		wantCheck(t, x, api.OK)
	}
}

// P9.1: indexes that are not valid, in each way.
func TestCheckOfWrongIndexes(t *testing.T) {
	for _, x := range wrongs() {
		wantCheck(t, x, api.ErrForm)
	}
}

// P9.1: a row that is not valid, at any place of an index that is full.
func TestCheckOfWrongRows(t *testing.T) {
	x := many(1024)
	for _, at := range []int{0, 1, 511, 512, 1022, 1023} {
		r := x.Rows[at]
		for _, n := range noCounts() {
			wantCheck(t, with(x, at, api.Row{Digest: r.Digest, Count: n, Text: r.Text}), api.ErrForm)
		}
		for _, d := range []int{r.Digest - 1, r.Digest + 1, r.Digest + api.Prime, -1, api.Prime} {
			wantCheck(t, with(x, at, api.Row{Digest: d, Count: 1, Text: r.Text}), api.ErrForm)
		}
		wantCheck(t, with(x, at, api.Row{Digest: r.Digest, Count: 1, Text: r.Text + "y"}), api.ErrForm)
		wantCheck(t, with(x, at, api.Row{Digest: r.Digest, Count: 1, Text: r.Text}), api.OK)
	}
}

// P9.1: a row with the digest of its text may have any of the texts that have it.
func TestCheckOfClashes(t *testing.T) {
	for _, p := range clashes() {
		wantCheck(t, index(counted(p[0], 1)), api.OK)
		wantCheck(t, index(counted(p[1], 1)), api.OK)
	}
}

// P9.1: an index is equal to itself, nil and an empty slice are one, and each field of each row counts.
func TestSame(t *testing.T) {
	wantSame(t, api.Index{}, api.Index{Rows: []api.Row{}}, true)
	for _, x := range rights() {
		wantSame(t, x, clone(x), true)
		wantSame(t, x, index(append(slices.Clone(x.Rows), counted("y", 1))...), false)
		for _, at := range []int{0, len(x.Rows) / 2, len(x.Rows) - 1} {
			if len(x.Rows) == 0 {
				break
			}
			r := x.Rows[at]
			wantSame(t, x, with(x, at, api.Row{Digest: r.Digest, Count: r.Count + 1, Text: r.Text}), false)
			wantSame(t, x, with(x, at, api.Row{Digest: r.Digest + 1, Count: r.Count, Text: r.Text}), false)
			wantSame(t, x, with(x, at, api.Row{Digest: r.Digest, Count: r.Count, Text: r.Text + "y"}), false)
			wantSame(t, x, index(slices.Delete(slices.Clone(x.Rows), at, at+1)...), false)
		}
	}
	for _, p := range clashes() {
		wantSame(t, index(counted(p[0], 1)), index(counted(p[1], 1)), false)
	}
}

// P9.1: indexes that are not valid are compared as they are.
func TestSameOfWrongIndexes(t *testing.T) {
	for _, x := range wrongs() {
		wantSame(t, x, clone(x), true)
		wantSame(t, x, api.Index{}, false)
	}
	for _, x := range unordered() {
		l := slices.Clone(x.Rows)
		slices.Reverse(l)
		wantSame(t, x, index(l...), slices.Equal(l, x.Rows))
	}
}

// P9.2: a new text gets a row in its place, at the front, in the middle and at the end; one that is there is counted.
func TestAdd(t *testing.T) {
	m := map[string]int{}
	var x api.Index
	for _, s := range []string{"m", "b", "x", "a", "m", sumLast, sum0, "", "b", "b", sumLast, sum0, "", sumNextLast, sum2, "\x00"} {
		m[s]++
		y, isNew, e := refs.Add(x, s)
		if !same(y, of(m)) || isNew != (m[s] == 1) || e != api.OK {
			t.Fatalf("Add(%v, %q) = %v, %v, %d", x, s, y, isNew, e)
		}
		x = y
	}
	wantCheck(t, x, api.OK)
}

// P9.2: texts with digests and lengths at the edges, to no rows, and to some.
func TestAddOfEdges(t *testing.T) {
	x := of(each(edgeTexts(), 7))
	for _, s := range edgeTexts() {
		wantAdd(t, api.Index{}, s, index(counted(s, 1)), true, api.OK)
		more, less := each(edgeTexts(), 7), each(edgeTexts(), 7)
		more[s] = 8
		wantAdd(t, x, s, of(more), false, api.OK)
		delete(less, s)
		with := maps.Clone(less)
		with[s] = 1
		wantAdd(t, of(less), s, of(with), true, api.OK)
	}
}

// P9.2: any Count but the greatest one becomes one greater.
func TestAddToCounts(t *testing.T) {
	for _, s := range []string{"", sum0, sumLast, "x", strings.Repeat("x", api.MaxText)} {
		for _, n := range counts() {
			x := of(map[string]int{s: n, "a": 1, "b": api.Prime - 1})
			if n < api.Prime-1 {
				wantAdd(t, x, s, of(map[string]int{s: n + 1, "a": 1, "b": api.Prime - 1}), false, api.OK)
			} else {
				wantAdd(t, x, s, api.Index{}, false, api.ErrLimit)
			}
		}
	}
}

// P9.2: texts that are too long.
func TestAddOfLongTexts(t *testing.T) {
	for _, s := range tooLong() {
		for _, x := range []api.Index{{}, many(1), many(1023), many(1024), index(counted("x", api.Prime-1)), index(counted(strings.Repeat("x", api.MaxText), 1))} {
			wantAdd(t, x, s, api.Index{}, false, api.ErrLimit)
		}
	}
}

// P9.2: a different text with the digest of a row, also where the row, or the index, is at its limit.
func TestAddOfClashes(t *testing.T) {
	almost := each(texts(1023), 1)
	for _, p := range clashes() {
		for i, s := range p {
			other := p[1-i]
			for _, n := range []int{1, 2, api.Prime - 2, api.Prime - 1} {
				wantAdd(t, index(counted(s, n)), other, api.Index{}, false, api.ErrClash)
				wantAdd(t, of(map[string]int{s: n, "a": 1, "b": 2, "m": 3}), other, api.Index{}, false, api.ErrClash)
			}
		}
	}
	for _, p := range clashes()[:5] {
		m := maps.Clone(almost)
		m[p[0]] = 1
		wantAdd(t, of(m), p[1], api.Index{}, false, api.ErrClash)
		m[p[0]] = api.Prime - 1
		wantAdd(t, of(m), p[1], api.Index{}, false, api.ErrClash)
		wantAdd(t, of(m), p[0], api.Index{}, false, api.ErrLimit)
	}
}

// P9.2: that a text is too long comes before a clash.
func TestAddOfLongClashes(t *testing.T) {
	for behind := range 3 {
		s := strings.Repeat("x", api.MaxText-len(shorter)-behind)
		kept, added := shorter+s, longer+s
		e := api.ErrClash
		if behind == 0 {
			e = api.ErrLimit
		}
		if digest.Sum(kept) != digest.Sum(added) || (len(added) > api.MaxText) != (behind == 0) {
			t.Fatal("no such texts")
		}
		wantAdd(t, index(counted(kept, 1)), added, api.Index{}, false, e)
		wantAdd(t, index(counted(kept, api.Prime-1)), added, api.Index{}, false, e)
	}
}

// P9.2: as many rows as the limit: a text that is there is counted, another one is too many.
func TestAddToFullIndexes(t *testing.T) {
	l := texts(1024)
	for n := 1021; n <= 1024; n++ {
		x := of(each(l[:n], 1))
		for _, s := range []string{l[0], l[500], l[n-1]} {
			m := each(l[:n], 1)
			m[s] = 2
			wantAdd(t, x, s, of(m), false, api.OK)
		}
		for _, s := range []string{"", sum0, sumLast, "other", strings.Repeat("x", api.MaxText)} {
			if n == 1024 {
				wantAdd(t, x, s, api.Index{}, false, api.ErrLimit)
				continue
			}
			m := each(l[:n], 1)
			m[s] = 1
			wantAdd(t, x, s, of(m), true, api.OK)
		}
	}
}

// P9.2: a Count becomes one less, and a row whose Count was 1 goes: from the front, the middle and the end.
func TestDrop(t *testing.T) {
	m := map[string]int{"": 1, "b": 2, "x": 3, sum0: 1, sumLast: 1, sum2: 2, "m": 1, "a": 4, sumNextLast: 1}
	x := of(m)
	for _, s := range []string{"b", "", sumLast, "x", sum2, "b", sum0, "x", "a", "m", "x", sum2, "a", "a", sumNextLast, "a"} {
		m[s]--
		gone := m[s] == 0
		if gone {
			delete(m, s)
		}
		y, gotGone, e := refs.Drop(x, digest.Sum(s))
		if !same(y, of(m)) || gotGone != gone || e != api.OK {
			t.Fatalf("Drop(%v, %d) = %v, %v, %d", x, digest.Sum(s), y, gotGone, e)
		}
		wantDrop(t, y, digest.Sum("none"), api.Index{}, false, api.ErrNone)
		x = y
	}
	if len(x.Rows) != 0 {
		t.Errorf("left: %v", x)
	}
}

// P9.2: any Count, with texts at the edges.
func TestDropOfCounts(t *testing.T) {
	for _, s := range edgeTexts() {
		for _, n := range counts() {
			if n == 1 {
				wantDrop(t, index(counted(s, 1)), digest.Sum(s), api.Index{}, true, api.OK)
			} else {
				wantDrop(t, index(counted(s, n)), digest.Sum(s), index(counted(s, n-1)), false, api.OK)
			}
		}
	}
}

// P9.2: each row of an index that is full.
func TestDropFromFullIndexes(t *testing.T) {
	x := many(1024)
	for at := 0; at < 1024; at += 31 {
		r := x.Rows[at]
		if r.Count == 1 {
			wantDrop(t, x, r.Digest, index(slices.Delete(slices.Clone(x.Rows), at, at+1)...), true, api.OK)
		} else {
			r.Count--
			wantDrop(t, x, r.Digest, with(x, at, r), false, api.OK)
		}
	}
}

// none returns numbers that are no digest of an index: before, between and behind its rows, and any others.
func none(x api.Index) []int {
	l := ints()
	for _, r := range x.Rows {
		l = append(l, r.Digest-1, r.Digest+1, -r.Digest, r.Digest+api.Prime, r.Digest-api.Prime, r.Digest+1<<32, r.Digest^math.MinInt)
	}
	return slices.DeleteFunc(l, func(d int) bool {
		return slices.ContainsFunc(x.Rows, func(r api.Row) bool { return r.Digest == d })
	})
}

// P9.2 and P9.3: digests that no row has.
func TestNone(t *testing.T) {
	for _, x := range []api.Index{{}, index(counted("x", 1)), index(counted("", 1)), index(counted(sum0, 1)), index(counted(sumLast, 1)), many(2), many(3), many(20), of(map[string]int{sum0: 1, "": 2, sumNextLast: 3, sumLast: 4, "x": 5})} {
		for _, d := range none(x) {
			wantDrop(t, x, d, api.Index{}, false, api.ErrNone)
			wantGet(t, x, d, "", 0, api.ErrNone)
		}
	}
}

// P9.2 and P9.3: an index that is not valid is the first error of all, also where other ones hold.
func TestWrongIndexes(t *testing.T) {
	long := strings.Repeat("x", api.MaxText+1)
	for _, x := range wrongs() {
		wantTotal(t, x, 0, 0, api.ErrForm)
		d := x.Rows[0].Digest
		for _, s := range []string{x.Rows[0].Text, "y", long} {
			wantAdd(t, x, s, api.Index{}, false, api.ErrForm)
		}
		for _, n := range []int{d, d + 1, -1} {
			wantDrop(t, x, n, api.Index{}, false, api.ErrForm)
			wantGet(t, x, n, "", 0, api.ErrForm)
		}
	}
}

// P9.2: an index that is not valid comes before a clash, a Count at its greatest value, and a limit of rows.
func TestWrongIndexesWithOtherErrors(t *testing.T) {
	for _, p := range clashes() {
		wantAdd(t, index(counted(p[0], 1), counted(p[0], 1)), p[1], api.Index{}, false, api.ErrForm)
		wantAdd(t, index(counted(p[0], 0)), p[1], api.Index{}, false, api.ErrForm)
	}
	most := counted("", api.Prime-1)
	wantAdd(t, index(most, counted("x", 0)), "", api.Index{}, false, api.ErrForm)
	wantAdd(t, index(counted("x", 1), most), "", api.Index{}, false, api.ErrForm)
	full := many(1024)
	last := full.Rows[1023]
	wantAdd(t, with(full, 1023, api.Row{Digest: last.Digest, Text: last.Text}), "y", api.Index{}, false, api.ErrForm)
	wantAdd(t, many(1025), "y", api.Index{}, false, api.ErrForm)
}

// P9.3: the text and the count of each row.
func TestGet(t *testing.T) {
	for _, x := range rights() {
		for i, r := range x.Rows {
			if i%100 == 0 || len(x.Rows) < 100 || i == len(x.Rows)-1 {
				wantGet(t, x, r.Digest, r.Text, r.Count, api.OK)
			}
		}
	}
	for _, p := range clashes() {
		wantGet(t, index(counted(p[0], 5)), digest.Sum(p[1]), p[0], 5, api.OK)
		wantGet(t, index(counted(p[1], 6)), digest.Sum(p[0]), p[1], 6, api.OK)
	}
}

// P9.3: bytes of texts, each once, and each as often as it is counted.
func TestTotal(t *testing.T) {
	wantTotal(t, api.Index{}, 0, 0, api.OK)
	wantTotal(t, index(counted("", 1)), 0, 0, api.OK)
	wantTotal(t, index(counted("", api.Prime-1)), 0, 0, api.OK)
	wantTotal(t, of(map[string]int{"": 9, "abc": 2, "x": 4}), 4, 10, api.OK)
	for _, s := range edgeTexts() {
		for _, n := range counts() {
			wantTotal(t, index(counted(s, n)), len(s), len(s)*n, api.OK)
		}
	}
	for _, x := range rights() {
		single, all := 0, 0
		for _, r := range x.Rows {
			single += len(r.Text)
			all += r.Count * len(r.Text)
		}
		wantTotal(t, x, single, all, api.OK)
	}
}

// P9.1 to P9.3: the greatest index there is: 2^24 bytes, each of them counted 2^31 - 2 times.
func TestLongest(t *testing.T) {
	x := longest()
	wantTotal(t, x, 1<<24, 1<<55-1<<25, api.OK)
	last := x.Rows[1023]
	wantAdd(t, x, last.Text, api.Index{}, false, api.ErrLimit)
	y, gone, e := refs.Drop(x, last.Digest)
	if len(y.Rows) != 1024 || y.Rows[1023] != counted(last.Text, api.Prime-2) || gone || e != api.OK {
		t.Errorf("Drop of the last row: %d rows, %v, %d", len(y.Rows), gone, e)
	}
	wantTotal(t, y, 1<<24, 1<<55-1<<25-1<<14, api.OK)
}

// The chapter's example.
func TestExample(t *testing.T) {
	x, _, _ := refs.Add(api.Index{}, "x")
	x, _, _ = refs.Add(x, "x")
	x, gone, e := refs.Drop(x, digest.Sum("x"))
	if gone || e != api.OK {
		t.Errorf("Drop: %v, %d", gone, e)
	}
	wantGet(t, x, digest.Sum("x"), "x", 1, api.OK)
}

// step is a text that is added, or dropped.
type step struct {
	text string
	add  bool
}

// after returns the index in which steps have been done, or fails.
func after(t *testing.T, l []step) api.Index {
	t.Helper()
	var x api.Index
	for _, s := range l {
		var e api.Errno
		if s.add {
			x, _, e = refs.Add(x, s.text)
		} else {
			x, _, e = refs.Drop(x, digest.Sum(s.text))
		}
		if e != api.OK {
			t.Fatalf("%v: %v: %d", l, s, e)
		}
	}
	return x
}

// inOrder returns the steps in any order in which no text is dropped that is not there.
func inOrder(r *rand.Rand, l []step) []step {
	l = slices.Clone(l)
	r.Shuffle(len(l), func(i, k int) { l[i], l[k] = l[k], l[i] })
	there := map[string]int{}
	var done []step
	for len(l) > 0 {
		at := slices.IndexFunc(l, func(s step) bool { return s.add || there[s.text] > 0 })
		if l[at].add {
			there[l[at].text]++
		} else {
			there[l[at].text]--
		}
		done = append(done, l[at])
		l = slices.Delete(l, at, at+1)
	}
	return done
}

// The consequences: in any order, just those are there that were added more often than dropped, with the difference as Count.
func TestAddedAndDropped(t *testing.T) {
	r := rand.New(rand.NewSource(41))
	for range 200 {
		m := map[string]int{}
		var l []step
		for _, s := range append(texts(1+r.Intn(12)), "", sum0, sumLast) {
			added := 1 + r.Intn(4)
			dropped := r.Intn(added + 1)
			l = append(l, slices.Repeat([]step{{s, true}}, added)...)
			l = append(l, slices.Repeat([]step{{s, false}}, dropped)...)
			if added > dropped {
				m[s] = added - dropped
			}
		}
		for range 3 {
			x := after(t, inOrder(r, l))
			wantSame(t, x, of(m), true)
			wantCheck(t, x, api.OK)
		}
	}
}

// The consequences: Drop behind Add is the index as it was, and the text is gone just if it was new.
func TestDropBehindAdd(t *testing.T) {
	for _, x := range append(rights(), of(map[string]int{"": 1, "x": 2}), many(7)) {
		for _, s := range []string{"", "x", "other", sum0, sumLast, strings.Repeat("x", api.MaxText)} {
			y, isNew, e := refs.Add(x, s)
			if e == api.OK {
				wantDrop(t, y, digest.Sum(s), x, isNew, api.OK)
			}
		}
	}
}

// R1: whatever an index is, all functions agree on whether it is valid, and what they return is valid.
func TestAnyIndexes(t *testing.T) {
	r := rand.New(rand.NewSource(42))
	edges := append(append(ints(), noCounts()...), counts()...)
	for range 20000 {
		x := clone(many(r.Intn(4)))
		for i := range x.Rows {
			switch r.Intn(12) {
			case 0:
				x.Rows[i].Digest = edges[r.Intn(len(edges))]
			case 1:
				x.Rows[i].Count = edges[r.Intn(len(edges))]
			case 2:
				x.Rows[i].Text = edgeTexts()[r.Intn(5)]
			case 3:
				k := r.Intn(len(x.Rows))
				x.Rows[i], x.Rows[k] = x.Rows[k], x.Rows[i]
			}
		}
		text, d := fmt.Sprint("t", r.Intn(5)), edges[r.Intn(len(edges))]
		if len(x.Rows) > 0 && r.Intn(2) == 0 {
			d = x.Rows[r.Intn(len(x.Rows))].Digest
		}
		y, _, added := refs.Add(x, text)
		z, _, dropped := refs.Drop(x, d)
		_, _, got := refs.Get(x, d)
		_, _, total := refs.Total(x)
		e := refs.Check(x)
		if total != e || got != dropped || (added == api.ErrForm) != (e != api.OK) || (dropped == api.ErrForm) != (e != api.OK) {
			t.Errorf("%v: %d, %d, %d, %d, %d", x, e, added, dropped, got, total)
		}
		wantCheck(t, y, api.OK)
		wantCheck(t, z, api.OK)
	}
}

// spare returns an index with other rows in the spare capacity behind it, and all of both.
func spare(x api.Index) (api.Index, []api.Row) {
	all := append(slices.Clone(x.Rows), counted("spare", 1), api.Row{Digest: -1, Count: -1, Text: "wrong"}, api.Row{})
	return index(all[:len(x.Rows)]...), all
}

// R2: arguments stay as they are, also their spare capacity.
func TestArgumentsStay(t *testing.T) {
	for _, given := range append(rights()[:60], append(unordered(), many(2), many(5), many(1024), many(1025), index(counted("x", 0)))...) {
		x, all := spare(given)
		other, allOther := spare(given)
		before, beforeOther := slices.Clone(all), slices.Clone(allOther)
		digests := []int{0, 1, api.Prime - 1, -1}
		for _, r := range given.Rows[:min(5, len(given.Rows))] {
			digests = append(digests, r.Digest)
		}
		for _, s := range []string{"", "x", "t0", "t1", "other", sum0, sumLast} {
			refs.Add(x, s)
		}
		for _, d := range digests {
			refs.Drop(x, d)
			refs.Get(x, d)
		}
		refs.Check(x)
		refs.Total(x)
		refs.Same(x, other)
		if !slices.Equal(all, before) || !slices.Equal(allOther, beforeOther) {
			t.Errorf("%s: an argument has changed", show(given))
		}
	}
}

// shares reports whether two lists share memory, also that of their spare capacity.
func shares(a, b []api.Row) bool {
	if cap(a) == 0 || cap(b) == 0 {
		return false
	}
	const word = unsafe.Sizeof(api.Row{})
	x, y := uintptr(unsafe.Pointer(&a[:1][0])), uintptr(unsafe.Pointer(&b[:1][0]))
	return x < y+uintptr(cap(b))*word && y < x+uintptr(cap(a))*word
}

// sharesText reports whether two texts share memory. Texts of one byte may be constants of the language.
func sharesText(a, b string) bool {
	if len(a) < 2 || len(b) < 2 {
		return false
	}
	x, y := uintptr(unsafe.Pointer(unsafe.StringData(a))), uintptr(unsafe.Pointer(unsafe.StringData(b)))
	return x < y+uintptr(len(b)) && y < x+uintptr(len(a))
}

// R2: results share no memory with arguments, nor among each other, also the texts of their rows.
func TestResultsAreNew(t *testing.T) {
	for _, n := range []int{0, 1, 2, 3, 50} {
		x, text := many(n), "other"
		added, _, _ := refs.Add(x, text)
		counted, _, _ := refs.Add(added, text)
		dropped, _, _ := refs.Drop(counted, digest.Sum(text))
		gone, _, _ := refs.Drop(dropped, digest.Sum(text))
		got, _, _ := refs.Get(counted, digest.Sum(text))
		l := []api.Index{x, added, counted, dropped, gone}
		for i, a := range l {
			for _, b := range l[:i] {
				if shares(a.Rows, b.Rows) {
					t.Errorf("%d rows: two lists share memory", n)
				}
				for _, r := range a.Rows {
					for _, s := range b.Rows {
						if sharesText(r.Text, s.Text) {
							t.Errorf("%d rows: %q shares memory", n, r.Text)
						}
					}
				}
			}
			for _, r := range a.Rows {
				if sharesText(r.Text, text) || sharesText(r.Text, got) {
					t.Errorf("%d rows: %q shares memory with a text", n, r.Text)
				}
			}
		}
		if sharesText(got, text) {
			t.Errorf("%d rows: the text of Get shares memory", n)
		}
	}
}

// R4: results do not depend on what was done with earlier ones.
func TestResultsStay(t *testing.T) {
	x := of(map[string]int{"a": 1, "b": 2, "": 3})
	for range 2 {
		y, _, _ := refs.Add(x, "c")
		z, _, _ := refs.Drop(x, digest.Sum("a"))
		wantAdd(t, x, "c", of(map[string]int{"a": 1, "b": 2, "c": 1, "": 3}), true, api.OK)
		wantDrop(t, x, digest.Sum("a"), of(map[string]int{"b": 2, "": 3}), true, api.OK)
		for _, l := range [][]api.Row{y.Rows, z.Rows} {
			for i := range l {
				l[i] = api.Row{Digest: 99, Count: 99, Text: "99"}
			}
		}
	}
}
