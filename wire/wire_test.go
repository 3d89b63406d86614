package wire_test

import (
	"math"
	"math/big"
	"math/rand"
	"slices"
	"strings"
	"testing"

	"storagebarter/api"
	"storagebarter/wire"
)

// numbers returns numbers of all lengths and both signs: around each one at which another byte begins, and some others.
func numbers() []int {
	l := []int{0, 1, -1, 2, -2, math.MaxInt, math.MaxInt - 1, math.MinInt, math.MinInt + 1}
	for i := range 63 {
		for d := -2; d <= 2; d++ {
			l = append(l, 1<<i+d, -(1<<i)+d)
		}
	}
	r := rand.New(rand.NewSource(1))
	for range 500 {
		l = append(l, int(r.Uint64())>>r.Intn(64))
	}
	return l
}

// written is the definition of the bytes of a number, in numbers without bounds.
func written(n int) string {
	u := new(big.Int).Lsh(big.NewInt(int64(n)), 1)
	if n < 0 {
		u.Neg(u).Sub(u, big.NewInt(1))
	}
	var b []byte
	for {
		group := byte(new(big.Int).And(u, big.NewInt(127)).Int64())
		u.Rsh(u, 7)
		if u.Sign() == 0 {
			return string(append(b, group))
		}
		b = append(b, group|128)
	}
}

// read is P1.1's list of errors, and the definition backwards, in numbers without bounds.
func read(s string, at int) (int, int, api.Errno) {
	if at < 0 || at > len(s) {
		return 0, 0, api.ErrRange
	}
	u := new(big.Int)
	for i, b := range []byte(s[at:]) {
		if i == 9 && b > 1 {
			return 0, 0, api.ErrForm
		}
		group := big.NewInt(int64(b & 127))
		u.Or(u, group.Lsh(group, uint(7*i)))
		if b&128 != 0 {
			continue
		}
		if b == 0 && i != 0 {
			return 0, 0, api.ErrForm
		}
		if odd := u.Bit(0) == 1; odd {
			u.Add(u, big.NewInt(1)).Neg(u)
		}
		return int(u.Rsh(u, 1).Int64()), at + i + 1, api.OK
	}
	return 0, 0, api.ErrShort
}

func wantInt(t *testing.T, s string, at, n, end int, e api.Errno) {
	t.Helper()
	if gotN, gotEnd, gotE := wire.Int(s, at); gotN != n || gotEnd != end || gotE != e {
		t.Errorf("Int(%q, %d) = %d, %d, %d, want %d, %d, %d", s, at, gotN, gotEnd, gotE, n, end, e)
	}
}

func wantText(t *testing.T, s string, at, most int, text string, end int, e api.Errno) {
	t.Helper()
	if gotText, gotEnd, gotE := wire.Text(s, at, most); gotText != text || gotEnd != end || gotE != e {
		t.Errorf("Text(%q, %d, %d) = %q, %d, %d, want %q, %d, %d", s, at, most, gotText, gotEnd, gotE, text, end, e)
	}
}

func wantList(t *testing.T, s string, at, most int, l []int, end int, e api.Errno) {
	t.Helper()
	if gotL, gotEnd, gotE := wire.List(s, at, most); !slices.Equal(gotL, l) || gotEnd != end || gotE != e {
		t.Errorf("List(%q, %d, %d) = %v, %d, %d, want %v, %d, %d", s, at, most, gotL, gotEnd, gotE, l, end, e)
	}
}

// P1.1, and the chapter's example.
func TestPutIntExamples(t *testing.T) {
	for _, x := range []struct {
		n    int
		want string
	}{
		{0, "\x00"}, {-1, "\x01"}, {1, "\x02"}, {-2, "\x03"}, {63, "\x7e"}, {-64, "\x7f"},
		{64, "\x80\x01"}, {-65, "\x81\x01"}, {8191, "\xfe\x7f"}, {-8192, "\xff\x7f"}, {8192, "\x80\x80\x01"}, {-8193, "\x81\x80\x01"},
		{math.MaxInt, "\xfe\xff\xff\xff\xff\xff\xff\xff\xff\x01"}, {math.MinInt, "\xff\xff\xff\xff\xff\xff\xff\xff\xff\x01"},
	} {
		for _, s := range []string{"", "ab", "\x80", "\x00"} {
			if got := wire.PutInt(s, x.n); got != s+x.want {
				t.Errorf("PutInt(%q, %d) = %q, want %q", s, x.n, got, s+x.want)
			}
		}
	}
}

// P1.1: the bytes of each number, which are read back whatever stands before and behind them.
func TestIntReadsWhatWasPut(t *testing.T) {
	for _, n := range numbers() {
		if got, want := wire.PutInt("", n), written(n); got != want {
			t.Errorf("PutInt(%d) = %q, want %q", n, got, want)
		}
		for _, before := range []string{"", "\x80", "\x00\x00"} {
			s := wire.PutInt(before, n)
			for _, behind := range []string{"", "\x00", "\x80", "\xff\x01"} {
				wantInt(t, s+behind, len(before), n, len(s), api.OK)
			}
		}
	}
}

// P1.1: each error, at its edges, and of two errors the first one.
func TestIntErrors(t *testing.T) {
	full := strings.Repeat("\xff", 9)
	null := strings.Repeat("\x80", 9)
	for _, x := range []struct {
		s  string
		at int
		e  api.Errno
	}{
		{"", -1, api.ErrRange}, {"", 1, api.ErrRange}, {"\x00", -1, api.ErrRange}, {"\x00", 2, api.ErrRange},
		{"\x00", math.MinInt, api.ErrRange}, {"\x00", math.MaxInt, api.ErrRange},
		{"", 0, api.ErrShort}, {"\x00", 1, api.ErrShort}, {"\x80", 0, api.ErrShort}, {"\x80\x80", 0, api.ErrShort},
		{full, 0, api.ErrShort}, {null, 0, api.ErrShort}, {"x" + full, 1, api.ErrShort},
		{full + "\x02", 0, api.ErrForm}, {full + "\x7f", 0, api.ErrForm}, {full + "\x80", 0, api.ErrForm}, {full + "\x81\x00", 0, api.ErrForm}, {full + "\xff", 0, api.ErrForm},
		{"\x80\x00", 0, api.ErrForm}, {"\xff\x00", 0, api.ErrForm}, {"\x80\x80\x00", 0, api.ErrForm}, {full + "\x00", 0, api.ErrForm}, {null + "\x00", 0, api.ErrForm},
		{"x\x80\x00", 1, api.ErrForm}, {"x" + full + "\x02", 1, api.ErrForm},
	} {
		wantInt(t, x.s, x.at, 0, 0, x.e)
	}
	wantInt(t, full+"\x01", 0, math.MinInt, 10, api.OK)
	wantInt(t, null+"\x01", 0, 1<<62, 10, api.OK)
}

// P1.1 and the consequences: bytes that are read are the only ones of their number.
func TestIntOfAllShortBytes(t *testing.T) {
	for i := range 1 << 16 {
		wantRead(t, string([]byte{byte(i >> 8), byte(i)}))
	}
	for i := range 1 << 12 {
		wantRead(t, string([]byte{byte(i>>8) | 128, byte(i >> 4), byte(i & 15), 3}))
	}
}

// P1.1: numbers of the most bytes, of which one is changed.
func TestIntOfChangedBytes(t *testing.T) {
	for _, n := range []int{math.MaxInt, math.MinInt, 1 << 61, 1 << 62, -1 << 40} {
		s := wire.PutInt("", n)
		for i := range s {
			for b := range 256 {
				wantRead(t, s[:i]+string([]byte{byte(b)})+s[i+1:])
				wantRead(t, s[:i]+string([]byte{byte(b)})+s[i+1:]+"\x00")
			}
		}
	}
}

func wantRead(t *testing.T, s string) {
	t.Helper()
	n, end, e := read(s, 0)
	wantInt(t, s, 0, n, end, e)
	if e == api.OK && wire.PutInt("", n) != s[:end] {
		t.Errorf("%q is read as %d, whose bytes are %q", s[:end], n, wire.PutInt("", n))
	}
}

// The consequences: the bytes of no number begin with those of another one.
func TestIntOfBeginnings(t *testing.T) {
	for _, n := range numbers() {
		s := wire.PutInt("", n)
		for i := range s {
			wantInt(t, s[:i], 0, 0, 0, api.ErrShort)
		}
	}
}

// P1.2: a text is its length in bytes, and its bytes.
func TestPutText(t *testing.T) {
	for _, x := range []struct{ s, text, want string }{
		{"", "", "\x00"}, {"x", "", "x\x00"}, {"x", "ab", "x\x04ab"}, {"", "\x80\xff\x00", "\x06\x80\xff\x00"}, {"", "\u00e9", "\x04\xc3\xa9"},
		{"x", strings.Repeat("y", 63), "x\x7e" + strings.Repeat("y", 63)}, {"x", strings.Repeat("y", 64), "x\x80\x01" + strings.Repeat("y", 64)},
	} {
		if got := wire.PutText(x.s, x.text); got != x.want {
			t.Errorf("PutText(%q, %q) = %q, want %q", x.s, x.text, got, x.want)
		}
	}
}

// P1.2: what was put is read back, with any limit that permits it, whatever stands before and behind it.
func TestTextReadsWhatWasPut(t *testing.T) {
	for _, n := range []int{0, 1, 2, 62, 63, 64, 65, 8191, 8192, 100000} {
		text := strings.Repeat("\x80a\x00", n)[:n]
		for _, before := range []string{"", "\x80", "\x00"} {
			s := wire.PutText(before, text)
			for _, behind := range []string{"", "\x00", "\xff"} {
				wantText(t, s+behind, len(before), n, text, len(s), api.OK)
				wantText(t, s+behind, len(before), n+1, text, len(s), api.OK)
				wantText(t, s+behind, len(before), math.MaxInt, text, len(s), api.OK)
				wantText(t, s+behind, len(before), n-1, "", 0, api.ErrLimit)
			}
			if n > 0 {
				wantText(t, s[:len(s)-1], len(before), n, "", 0, api.ErrShort)
			}
		}
	}
}

// P1.2: each error, at its edges, and of two errors the first one.
func TestTextErrors(t *testing.T) {
	huge := wire.PutInt("", math.MaxInt)
	for _, x := range []struct {
		s        string
		at, most int
		e        api.Errno
	}{
		{"\x00", -1, 9, api.ErrRange}, {"\x00", 2, -1, api.ErrRange}, {"\x00", math.MaxInt, 9, api.ErrRange}, {"\x00", math.MinInt, 9, api.ErrRange},
		{"", 0, 9, api.ErrShort}, {"\x80", 0, -1, api.ErrShort}, {"\x04ab", 3, 9, api.ErrShort},
		{"\x80\x00", 0, -1, api.ErrForm}, {"\x82\x00a", 0, 9, api.ErrForm}, {strings.Repeat("\xff", 9) + "\x02", 0, 9, api.ErrForm},
		{"\x01", 0, 9, api.ErrForm}, {"\x01ab", 0, -1, api.ErrForm}, {"\x01ab", 0, -2, api.ErrForm}, {wire.PutInt("", math.MinInt), 0, math.MinInt, api.ErrForm},
		{"\x04ab", 0, 1, api.ErrLimit}, {"\x04a", 0, 1, api.ErrLimit}, {"\x00", 0, -1, api.ErrLimit}, {"\x00", 0, math.MinInt, api.ErrLimit}, {huge, 0, math.MaxInt - 1, api.ErrLimit},
		{"\x04a", 0, 2, api.ErrShort}, {"\x02", 0, 9, api.ErrShort}, {"xxxx\x04a", 4, 9, api.ErrShort}, {huge, 0, math.MaxInt, api.ErrShort}, {huge + "ab", 0, math.MaxInt, api.ErrShort},
	} {
		wantText(t, x.s, x.at, x.most, "", 0, x.e)
	}
}

// P1.3: a list is its length, and its elements.
func TestPutList(t *testing.T) {
	for _, x := range []struct {
		s    string
		l    []int
		want string
	}{
		{"", nil, "\x00"}, {"x", []int{}, "x\x00"}, {"x", []int{0}, "x\x02\x00"}, {"x", []int{1, -1, 64}, "x\x06\x02\x01\x80\x01"},
		{"", make([]int, 63), "\x7e" + strings.Repeat("\x00", 63)}, {"", make([]int, 64), "\x80\x01" + strings.Repeat("\x00", 64)},
	} {
		if got := wire.PutList(x.s, x.l); got != x.want {
			t.Errorf("PutList(%q, %v) = %q, want %q", x.s, x.l, got, x.want)
		}
	}
}

// P1.3: what was put is read back, with any limit that permits it, whatever stands before and behind it.
func TestListReadsWhatWasPut(t *testing.T) {
	all := numbers()
	for _, n := range []int{0, 1, 2, 63, 64, 65, len(all)} {
		l := all[len(all)-n:]
		for _, before := range []string{"", "\x80", "\x00"} {
			s := wire.PutList(before, l)
			for _, behind := range []string{"", "\x00", "\x80"} {
				wantList(t, s+behind, len(before), n, l, len(s), api.OK)
				wantList(t, s+behind, len(before), n+1, l, len(s), api.OK)
				wantList(t, s+behind, len(before), math.MaxInt, l, len(s), api.OK)
				wantList(t, s+behind, len(before), n-1, nil, 0, api.ErrLimit)
			}
			if n > 0 {
				wantList(t, s[:len(s)-1], len(before), n, nil, 0, api.ErrShort)
			}
		}
	}
}

// P1.3: each error, at its edges, and of two errors the first one.
func TestListErrors(t *testing.T) {
	huge := wire.PutInt("", math.MaxInt)
	full := strings.Repeat("\xff", 9)
	for _, x := range []struct {
		s        string
		at, most int
		e        api.Errno
	}{
		{"\x00", -1, 9, api.ErrRange}, {"\x00", 2, -1, api.ErrRange}, {"\x00", math.MaxInt, 9, api.ErrRange}, {"\x00", math.MinInt, 9, api.ErrRange},
		{"", 0, 9, api.ErrShort}, {"\x80", 0, -1, api.ErrShort}, {"\x04\x00\x00", 3, 9, api.ErrShort},
		{"\x80\x00", 0, -1, api.ErrForm}, {"\x82\x00\x00", 0, 9, api.ErrForm}, {full + "\x02", 0, 9, api.ErrForm},
		{"\x01", 0, 9, api.ErrForm}, {"\x03\x00", 0, -1, api.ErrForm}, {"\x01", 0, -2, api.ErrForm}, {wire.PutInt("", math.MinInt), 0, math.MinInt, api.ErrForm},
		{"\x04\x00\x00", 0, 1, api.ErrLimit}, {"\x04", 0, 1, api.ErrLimit}, {"\x04\x80\x00", 0, 1, api.ErrLimit}, {"\x00", 0, -1, api.ErrLimit}, {"\x00", 0, math.MinInt, api.ErrLimit}, {huge, 0, math.MaxInt - 1, api.ErrLimit},
		{"\x04\x00", 0, 2, api.ErrShort}, {"\x02", 0, 9, api.ErrShort}, {"\x02\x80", 0, 9, api.ErrShort}, {"xxxx\x04\x00", 4, 9, api.ErrShort}, {huge, 0, math.MaxInt, api.ErrShort}, {huge + "\x00\x00", 0, math.MaxInt, api.ErrShort},
		{"\x02\x80\x00", 0, 9, api.ErrForm}, {"\x04\x00\x80\x00", 0, 9, api.ErrForm}, {"\x04\x80\x00\x80", 0, 9, api.ErrForm}, {"\x04\x80\x00", 0, 9, api.ErrForm}, {"\x02" + full + "\x02", 0, 9, api.ErrForm}, {"\x02" + full + "\x00", 0, 9, api.ErrForm}, {huge + "\x80\x00", 0, math.MaxInt, api.ErrForm},
	} {
		wantList(t, x.s, x.at, x.most, nil, 0, x.e)
	}
}

// P1.1 to P1.3: values of all kinds stand behind one another, and are read in turn.
func TestValuesInTurn(t *testing.T) {
	s := wire.PutList(wire.PutText(wire.PutInt(wire.PutText("", "a\x00"), -300), ""), []int{-1, 7000})
	wantText(t, s, 0, 2, "a\x00", 3, api.OK)
	wantInt(t, s, 3, -300, 5, api.OK)
	wantText(t, s, 5, 0, "", 6, api.OK)
	wantList(t, s, 6, 2, []int{-1, 7000}, len(s), api.OK)
}

// R2: arguments stay as they are, with their spare capacity, and results share nothing.
func TestListsShareNothing(t *testing.T) {
	room := []int{1, 2, 3, 4}
	s := wire.PutList("", room[:2])
	if !slices.Equal(room, []int{1, 2, 3, 4}) {
		t.Errorf("PutList has changed its argument: %v", room)
	}
	room[0] = 9
	a, _, _ := wire.List(s, 0, 2)
	b, _, _ := wire.List(s, 0, 2)
	a[0] = 8
	if !slices.Equal(b, []int{1, 2}) {
		t.Errorf("a list is %v after a change of another one, want [1 2]", b)
	}
}

// R1: long lists take time and memory in proportion to their bytes.
func TestLongList(t *testing.T) {
	l := make([]int, 1<<20)
	for i := range l {
		l[i] = i - len(l)/2
	}
	s := wire.PutList("", l)
	if got, end, e := wire.List(s, 0, len(l)); !slices.Equal(got, l) || end != len(s) || e != api.OK {
		t.Errorf("%d elements are read as %d, up to %d of %d bytes, with %d", len(l), len(got), end, len(s), e)
	}
}
