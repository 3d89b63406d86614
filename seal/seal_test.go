package seal_test

import (
	"math"
	"math/rand"
	"strings"
	"testing"
	"unsafe"

	"storagebarter/api"
	"storagebarter/digest"
	"storagebarter/seal"
	"storagebarter/wire"
)

const (
	greatestKey  = 2*api.Prime - 1
	greatestLock = 6*api.Prime - 2
)

// Texts whose digests are the least and the greatest one.
const (
	leastSum    = "x\x8e\xc6\xb5\b\xf5"
	greatestSum = "x\x8e\xc6\xb5\b\xf4"
)

// keys returns keys of both kinds: the least and the greatest ones, and others.
func keys() []int {
	l := []int{0, 1, 2, 3, 4, 5, api.Prime - 1, api.Prime, api.Prime + 1, greatestKey - 2, greatestKey - 1, greatestKey}
	r := rand.New(rand.NewSource(4))
	for range 40 {
		l = append(l, r.Intn(greatestKey))
	}
	return l
}

// noKeys returns numbers that are no keys, also some of which a lock would wrap around.
func noKeys() []int {
	return []int{-1, -2, -3, 2 * api.Prime, 2*api.Prime + 1, 3 * api.Prime, 1 << 32, 1 << 62, math.MaxInt, math.MaxInt - 1, math.MaxInt / 3, math.MaxInt/3 + 1, math.MinInt, math.MinInt + 1, math.MinInt / 3}
}

// locks returns locks and other numbers, at both ends and between them, and whether they are locks.
func locks() map[int]bool {
	m := map[int]bool{math.MaxInt: false, math.MinInt: false, math.MinInt + 1: false, math.MinInt + 2: false, 1 << 62: false}
	for d := -10; d < 0; d++ {
		m[d], m[greatestLock-d] = false, false
	}
	for _, k := range keys() {
		m[3*k], m[3*k+1], m[3*k+2] = false, true, false
	}
	return m
}

// texts returns texts of different lengths, up to the limit, with bytes of all values.
func texts() []string {
	l := []string{"", "\x00", "a", "abc", "\u00e9\u4e16", "\x80\xff\x00\xfe", leastSum, greatestSum, strings.Repeat("\xff", 63), strings.Repeat("\x00", 64), strings.Repeat("y", api.MaxText-1), strings.Repeat("z", api.MaxText)}
	r := rand.New(rand.NewSource(5))
	for n := range 30 {
		b := make([]byte, n)
		r.Read(b)
		l = append(l, string(b))
	}
	return l
}

// tooLong is a text above the limit.
var tooLong = strings.Repeat("x", api.MaxText+1)

func wantPrivate(t *testing.T, k, key int, e api.Errno) {
	t.Helper()
	if gotKey, gotE := seal.Private(k); gotKey != key || gotE != e {
		t.Errorf("Private(%d) = %d, %d, want %d, %d", k, gotKey, gotE, key, e)
	}
}

func wantConvergent(t *testing.T, text string, key int) {
	t.Helper()
	if got := seal.Convergent(text); got != key {
		t.Errorf("Convergent(%.20q) = %d, want %d", text, got, key)
	}
}

func wantLock(t *testing.T, key, lock int, e api.Errno) {
	t.Helper()
	if gotLock, gotE := seal.Lock(key); gotLock != lock || gotE != e {
		t.Errorf("Lock(%d) = %d, %d, want %d, %d", key, gotLock, gotE, lock, e)
	}
}

func wantSeal(t *testing.T, text string, key int, s api.Sealed, e api.Errno) {
	t.Helper()
	if gotS, gotE := seal.Seal(text, key); gotS != s || gotE != e {
		t.Errorf("Seal(%.20q, %d) = %d, %.20q, %d, want %d, %.20q, %d", text, key, gotS.Lock, gotS.Text, gotE, s.Lock, s.Text, e)
	}
}

func wantOpen(t *testing.T, s api.Sealed, key int, text string, e api.Errno) {
	t.Helper()
	if gotText, gotE := seal.Open(s, key); gotText != text || gotE != e {
		t.Errorf("Open(%d, %.20q, %d) = %.20q, %d, want %.20q, %d", s.Lock, s.Text, key, gotText, gotE, text, e)
	}
}

func wantEncode(t *testing.T, s api.Sealed, b string, e api.Errno) {
	t.Helper()
	if gotB, gotE := seal.Encode(s); gotB != b || gotE != e {
		t.Errorf("Encode(%d, %.20q) = %.20q, %d, want %.20q, %d", s.Lock, s.Text, gotB, gotE, b, e)
	}
}

func wantDecode(t *testing.T, b string, at int, s api.Sealed, end int, e api.Errno) {
	t.Helper()
	if gotS, gotEnd, gotE := seal.Decode(b, at); gotS != s || gotEnd != end || gotE != e {
		t.Errorf("Decode(%.20q, %d) = %d, %.20q, %d, %d, want %d, %.20q, %d, %d", b, at, gotS.Lock, gotS.Text, gotEnd, gotE, s.Lock, s.Text, end, e)
	}
}

func wantName(t *testing.T, s api.Sealed, n api.Name, e api.Errno) {
	t.Helper()
	if gotN, gotE := seal.Name(s); gotN != n || gotE != e {
		t.Errorf("Name(%d, %.20q) = %v, %d, want %v, %d", s.Lock, s.Text, gotN, gotE, n, e)
	}
}

// P3.1, and the chapter's example: private keys are odd.
func TestPrivate(t *testing.T) {
	for _, x := range []struct{ k, key int }{{0, 1}, {1, 3}, {2, 5}, {1000, 2001}, {api.Prime - 2, greatestKey - 2}, {api.Prime - 1, greatestKey}} {
		wantPrivate(t, x.k, x.key, api.OK)
	}
	// Of the last ones, twice the number wraps around to a key.
	for _, k := range []int{-1, -2, api.Prime, api.Prime + 1, 2 * api.Prime, math.MaxInt, math.MaxInt - 1, 1 << 62, math.MinInt, math.MinInt + 1} {
		wantPrivate(t, k, 0, api.ErrRange)
	}
}

// P3.1: convergent keys are even, and texts of any length have one.
func TestConvergent(t *testing.T) {
	wantConvergent(t, "", 2)
	wantConvergent(t, "a", 2*(1000003+98))
	wantConvergent(t, leastSum, 0)
	wantConvergent(t, greatestSum, greatestKey-1)
	wantConvergent(t, tooLong, 2*digest.Sum(tooLong))
	for _, text := range texts() {
		wantConvergent(t, text, 2*digest.Sum(text))
	}
}

// P3.1, and the chapter's example.
func TestLock(t *testing.T) {
	for _, x := range []struct{ key, lock int }{{0, 1}, {1, 4}, {2, 7}, {3, 10}, {greatestKey - 1, greatestLock - 3}, {greatestKey, greatestLock}} {
		wantLock(t, x.key, x.lock, api.OK)
	}
	for _, key := range keys() {
		wantLock(t, key, 3*key+1, api.OK)
	}
	for _, key := range noKeys() {
		wantLock(t, key, 0, api.ErrRange)
	}
}

// P3.2: a text is under the lock of the key, and opened by the key.
func TestSealAndOpen(t *testing.T) {
	wantSeal(t, "abc", 3, api.Sealed{Lock: 10, Text: "abc"}, api.OK)
	wantSeal(t, "", 0, api.Sealed{Lock: 1}, api.OK)
	wantSeal(t, "", greatestKey, api.Sealed{Lock: greatestLock}, api.OK)
	for _, text := range texts() {
		for _, key := range keys() {
			s := api.Sealed{Lock: 3*key + 1, Text: text}
			wantSeal(t, text, key, s, api.OK)
			wantOpen(t, s, key, text, api.OK)
		}
		s, _ := seal.Seal(text, seal.Convergent(text))
		wantOpen(t, s, seal.Convergent(text), text, api.OK)
	}
}

// P3.2: Seal's errors, and of two the first one.
func TestSealErrors(t *testing.T) {
	for _, key := range noKeys() {
		wantSeal(t, "abc", key, api.Sealed{}, api.ErrRange)
		wantSeal(t, "", key, api.Sealed{}, api.ErrRange)
		wantSeal(t, tooLong, key, api.Sealed{}, api.ErrRange)
	}
	for _, key := range keys() {
		wantSeal(t, tooLong, key, api.Sealed{}, api.ErrLimit)
		wantSeal(t, tooLong+tooLong, key, api.Sealed{}, api.ErrLimit)
	}
}

// P3.2: a sealed text that is not valid is opened by nothing, and its error is the first one.
func TestOpenOfWhatIsNotValid(t *testing.T) {
	for lock, valid := range locks() {
		for _, key := range append(noKeys(), 0, 1, 3, greatestKey, lock/3, (lock-1)/3) {
			wantOpen(t, api.Sealed{Lock: lock, Text: tooLong}, key, "", api.ErrForm)
			if !valid {
				wantOpen(t, api.Sealed{Lock: lock, Text: "abc"}, key, "", api.ErrForm)
			}
		}
	}
}

// P3.2: Open's other errors, of which a number that is no key is the first one.
func TestOpenErrors(t *testing.T) {
	for lock, valid := range locks() {
		if !valid {
			continue
		}
		s := api.Sealed{Lock: lock, Text: "abc"}
		for _, key := range noKeys() {
			wantOpen(t, s, key, "", api.ErrRange)
		}
		for _, key := range append(keys(), lock/3+1, lock/3-1) {
			if key >= 0 && key <= greatestKey && key != lock/3 {
				wantOpen(t, s, key, "", api.ErrKey)
			}
		}
	}
}

// The consequences: different keys have different locks, and what is sealed with one of them is not opened by another one.
func TestOneKeyOneLock(t *testing.T) {
	of := map[int]int{}
	for _, key := range keys() {
		lock, _ := seal.Lock(key)
		if other, there := of[lock]; there && other != key {
			t.Errorf("%d and %d have one lock, %d", key, other, lock)
		}
		of[lock] = key
		s, _ := seal.Seal("abc", key)
		for _, other := range keys() {
			if text, e := seal.Open(s, other); (e == api.OK) != (other == key) || (text == "abc") != (other == key) {
				t.Errorf("What is sealed with %d is opened with %d: %q, %d", key, other, text, e)
			}
		}
	}
}

// P3.3: the bytes of a sealed text are those of its lock and of its text.
func TestEncode(t *testing.T) {
	for _, x := range []struct {
		s    api.Sealed
		want string
	}{
		{api.Sealed{Lock: 1}, "\x02\x00"},
		{api.Sealed{Lock: 10, Text: "ab"}, "\x14\x04ab"},
		{api.Sealed{Lock: 64, Text: "\x80\xff\x00"}, "\x80\x01\x06\x80\xff\x00"},
		{api.Sealed{Lock: greatestLock}, "\xf0\xff\xff\xff\x5f\x00"},
		{api.Sealed{Lock: greatestLock, Text: strings.Repeat("x", api.MaxText)}, "\xf0\xff\xff\xff\x5f\x80\x80\x02" + strings.Repeat("x", api.MaxText)},
	} {
		wantEncode(t, x.s, x.want, api.OK)
	}
	for lock, valid := range locks() {
		for _, text := range texts() {
			if valid {
				wantEncode(t, api.Sealed{Lock: lock, Text: text}, wire.PutText(wire.PutInt("", lock), text), api.OK)
			} else {
				wantEncode(t, api.Sealed{Lock: lock, Text: text}, "", api.ErrForm)
			}
		}
		wantEncode(t, api.Sealed{Lock: lock, Text: tooLong}, "", api.ErrForm)
	}
}

// P3.3: the name is the digest and the length of the bytes, not of the text.
func TestName(t *testing.T) {
	wantName(t, api.Sealed{Lock: 1}, api.Name{Digest: digest.Sum("\x02\x00"), Size: 2}, api.OK)
	wantName(t, api.Sealed{Lock: 10, Text: "ab"}, api.Name{Digest: digest.Sum("\x14\x04ab"), Size: 4}, api.OK)
	for lock, valid := range locks() {
		for _, text := range []string{"", "\x00", "abc", texts()[11]} {
			s := api.Sealed{Lock: lock, Text: text}
			if b := wire.PutText(wire.PutInt("", lock), text); valid {
				wantName(t, s, api.Name{Digest: digest.Sum(b), Size: len(b)}, api.OK)
			} else {
				wantName(t, s, api.Name{}, api.ErrForm)
			}
		}
		wantName(t, api.Sealed{Lock: lock, Text: tooLong}, api.Name{}, api.ErrForm)
	}
}

// P3.3 and the consequences: what was encoded is decoded, whatever stands before and behind it.
func TestDecodeReadsWhatWasEncoded(t *testing.T) {
	for lock, valid := range locks() {
		for _, text := range texts() {
			s := api.Sealed{Lock: lock, Text: text}
			for _, before := range []string{"", "\x80", "\x00"} {
				b := wire.PutText(wire.PutInt(before, lock), text)
				if !valid {
					wantDecode(t, b, len(before), api.Sealed{}, 0, api.ErrForm)
					continue
				}
				for _, behind := range []string{"", "\x00", "\xff"} {
					wantDecode(t, b+behind, len(before), s, len(b), api.OK)
				}
			}
		}
	}
}

// P3.3: bytes that end too early.
func TestDecodeOfBeginnings(t *testing.T) {
	for _, s := range []api.Sealed{{Lock: 1}, {Lock: 10, Text: "abc"}, {Lock: greatestLock, Text: strings.Repeat("x", 200)}} {
		b, _ := seal.Encode(s)
		for i := range b {
			wantDecode(t, b[:i], 0, api.Sealed{}, 0, api.ErrShort)
		}
	}
}

// P3.3: each error, at its edges, and of two errors the first one.
func TestDecodeErrors(t *testing.T) {
	for _, x := range []struct {
		b  string
		at int
		e  api.Errno
	}{
		{"", -1, api.ErrRange}, {"", 1, api.ErrRange}, {"\x14\x04ab", -1, api.ErrRange}, {"\x14\x04ab", 5, api.ErrRange}, {"\x14\x04ab", math.MaxInt, api.ErrRange}, {"\x14\x04ab", math.MinInt, api.ErrRange},
		{"", 0, api.ErrShort}, {"\x14\x04ab", 4, api.ErrShort}, {"\x80", 0, api.ErrShort}, {"\x14", 0, api.ErrShort}, {"\x14\x80", 0, api.ErrShort}, {"\x14\x04a", 0, api.ErrShort}, {"xxx\x14\x04a", 3, api.ErrShort},
		{"\x80\x00\x00", 0, api.ErrForm}, {"\x94\x00\x00", 0, api.ErrForm}, {strings.Repeat("\xff", 9) + "\x02\x00", 0, api.ErrForm},
		{"\x14\x80\x00", 0, api.ErrForm}, {"\x14\x01", 0, api.ErrForm}, {"\x14\x01" + tooLong, 0, api.ErrForm},
		{wire.PutText("\x14", tooLong), 0, api.ErrLimit}, {"\x14\x82\x80\x02", 0, api.ErrLimit}, {wire.PutInt("\x14", math.MaxInt), 0, api.ErrLimit}, {"\x14\x80\x80\x02", 0, api.ErrShort},
		{"\x00\x00", 0, api.ErrForm}, {"\x01\x00", 0, api.ErrForm}, {"\x03\x00", 0, api.ErrForm}, {"\x04\x00", 0, api.ErrForm}, {"\x06\x04ab", 0, api.ErrForm}, {"\x12\x00", 0, api.ErrForm}, {"\xf6\xff\xff\xff\x5f\x00", 0, api.ErrForm},
		// What is wrong with the text comes before a number that is no lock.
		{"\x12", 0, api.ErrShort}, {"\x12\x04a", 0, api.ErrShort}, {"\x12\x80", 0, api.ErrShort}, {"\x12\x82\x80\x02", 0, api.ErrLimit}, {wire.PutText("\x01", tooLong), 0, api.ErrLimit},
	} {
		wantDecode(t, x.b, x.at, api.Sealed{}, 0, x.e)
	}
	wantDecode(t, "\x02\x00", 0, api.Sealed{Lock: 1}, 2, api.OK)
	wantDecode(t, "\xf0\xff\xff\xff\x5f\x00", 0, api.Sealed{Lock: greatestLock}, 6, api.OK)
}

// P3.3: bytes that are decoded are the only ones of what they say.
func TestDecodeOfAllShortBytes(t *testing.T) {
	for i := range 1 << 16 {
		b := string([]byte{byte(i >> 8), byte(i), 2, 'a'})
		s, end, e := seal.Decode(b, 0)
		if e == api.OK {
			wantEncode(t, s, b[:end], api.OK)
		} else {
			wantDecode(t, b, 0, api.Sealed{}, 0, e)
		}
	}
}

// R2: a text that is sealed, opened or decoded is new memory.
func TestNewMemory(t *testing.T) {
	text := strings.Repeat("ab", 10)
	s, _ := seal.Seal(text, 3)
	opened, _ := seal.Open(s, 3)
	b, _ := seal.Encode(s)
	decoded, _, _ := seal.Decode(b, 0)
	if shared(text, s.Text) || shared(s.Text, opened) || shared(b[2:], decoded.Text) {
		t.Error("A text is not new memory")
	}
}

func shared(s, u string) bool {
	return unsafe.StringData(s) == unsafe.StringData(u)
}
