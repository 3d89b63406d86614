package digest_test

import (
	"math"
	"math/big"
	"math/rand"
	"slices"
	"strings"
	"testing"

	"storagebarter/api"
	"storagebarter/digest"
	"storagebarter/wire"
)

// texts returns texts of different lengths: the empty one, all of one byte, and others, with bytes of all values.
func texts() []string {
	l := []string{"", "\x00\x00", "\xff\xff\xff", "abc", "hello world", "\u00e9\u4e16", "\x80\x00\xfe", strings.Repeat("\x00", 300), strings.Repeat("\xff", 300)}
	for b := range 256 {
		l = append(l, string([]byte{byte(b)}))
	}
	r := rand.New(rand.NewSource(2))
	for n := range 60 {
		b := make([]byte, n)
		r.Read(b)
		l = append(l, string(b))
	}
	return l
}

// numbers returns numbers of both signs, below P and not, and around its multiples and the powers of 2.
func numbers() []int {
	l := []int{math.MaxInt, math.MinInt, math.MaxInt - math.MaxInt%api.Prime, math.MinInt - math.MinInt%api.Prime}
	for _, n := range []int{0, 1000, api.Base, api.Prime, 2 * api.Prime, 5 * api.Prime} {
		for d := -2; d <= 2; d++ {
			l = append(l, n+d, -n+d)
		}
	}
	for i := range 62 {
		l = append(l, 1<<i-1, 1<<i, 1<<i+1, -(1 << i))
	}
	r := rand.New(rand.NewSource(3))
	for range 100 {
		l = append(l, int(r.Uint64())>>r.Intn(64))
	}
	return l
}

var prime = big.NewInt(api.Prime)

// modulo is a number modulo P, from 0 to P - 1, in numbers without bounds.
func modulo(n *big.Int) int {
	return int(new(big.Int).Mod(n, prime).Int64())
}

// sum is the definition of Sum, of which no step is reduced.
func sum(s string) int {
	d := big.NewInt(1)
	for _, b := range []byte(s) {
		d.Mul(d, big.NewInt(api.Base)).Add(d, big.NewInt(int64(b)+1))
	}
	return modulo(d)
}

// power is the definition of Power.
func power(n int) int {
	return modulo(new(big.Int).Exp(big.NewInt(api.Base), big.NewInt(int64(max(n, 0))), prime))
}

// join is the definition of Join.
func join(a, b, n int) int {
	p := big.NewInt(int64(power(n)))
	d := new(big.Int).Mul(big.NewInt(int64(a)), p)
	return modulo(d.Add(d, big.NewInt(int64(b))).Sub(d, p))
}

// at is the definition of At, byte after byte.
func at(s string, x int) int {
	v, power := new(big.Int), big.NewInt(1)
	for _, b := range []byte(s) {
		v.Add(v, new(big.Int).Mul(big.NewInt(int64(b)+1), power))
		power.Mul(power, big.NewInt(int64(x))).Mod(power, prime)
	}
	return modulo(v)
}

func wantSum(t *testing.T, s string, want int) {
	t.Helper()
	if got := digest.Sum(s); got != want {
		t.Errorf("Sum(%q) = %d, want %d", s, got, want)
	}
}

func wantOf(t *testing.T, l []int, want int) {
	t.Helper()
	if got := digest.Of(l); got != want {
		t.Errorf("Of(%v) = %d, want %d", l, got, want)
	}
}

func wantPower(t *testing.T, n, want int) {
	t.Helper()
	if got := digest.Power(n); got != want {
		t.Errorf("Power(%d) = %d, want %d", n, got, want)
	}
}

func wantJoin(t *testing.T, a, b, n, want int) {
	t.Helper()
	if got := digest.Join(a, b, n); got != want {
		t.Errorf("Join(%d, %d, %d) = %d, want %d", a, b, n, got, want)
	}
}

func wantAt(t *testing.T, s string, x, want int) {
	t.Helper()
	if got := digest.At(s, x); got != want {
		t.Errorf("At(%q, %d) = %d, want %d", s, x, got, want)
	}
}

// P2.1, and the chapter's examples.
func TestSumExamples(t *testing.T) {
	wantSum(t, "", 1)
	wantSum(t, "a", 1000003+98)
	wantSum(t, "\x00", 1000003+1)
	wantSum(t, "\xff", 1000003+256)
	wantSum(t, "ab", (1000101*1000003+99)%api.Prime)
	wantSum(t, "\u00e9", sum("\xc3\xa9"))
}

// P2.1: the digest of each text, which is from 0 to P - 1.
func TestSum(t *testing.T) {
	for _, s := range texts() {
		wantSum(t, s, sum(s))
	}
	wantSum(t, "\x01L/\xba_", 0)
}

// P2.1 and R7: long texts, too.
func TestSumOfLongTexts(t *testing.T) {
	for _, b := range []byte{0, 1, 255} {
		n := 1 << 20
		// Of equal bytes, the digest is a geometric sum.
		p := power(n)
		inverse := new(big.Int).ModInverse(big.NewInt(api.Base-1), prime)
		d := new(big.Int).Mul(big.NewInt(int64(p-1)), inverse)
		d.Mul(d, big.NewInt(int64(b)+1)).Add(d, big.NewInt(int64(p)))
		if got, want := digest.Sum(strings.Repeat(string([]byte{b}), n)), modulo(d); got != want {
			t.Errorf("Sum of %d bytes %d = %d, want %d", n, b, got, want)
		}
	}
}

// P2.1: the digest of a list is that of its bytes, with its length.
func TestOf(t *testing.T) {
	wantOf(t, nil, sum("\x00"))
	wantOf(t, []int{}, 1000004)
	wantOf(t, []int{0}, sum("\x02\x00"))
	wantOf(t, []int{1}, sum("\x02\x02"))
	wantOf(t, []int{0, 0}, sum("\x04\x00\x00"))
	wantOf(t, []int{1, -1, 64}, sum("\x06\x02\x01\x80\x01"))
	wantOf(t, []int{math.MinInt}, sum("\x02\xff\xff\xff\xff\xff\xff\xff\xff\xff\x01"))
	wantOf(t, make([]int, 64), sum("\x80\x01"+strings.Repeat("\x00", 64)))
	all := numbers()
	for n := range all {
		wantOf(t, all[:n], sum(wire.PutList("", all[:n])))
	}
}

// R2: a list stays as it is, with its spare capacity, and nil is an empty one.
func TestOfChangesNothing(t *testing.T) {
	room := []int{1, 2, 3, 4}
	wantOf(t, room[:2], digest.Of([]int{1, 2}))
	if !slices.Equal(room, []int{1, 2, 3, 4}) {
		t.Errorf("Of has changed its argument: %v", room)
	}
	wantOf(t, nil, digest.Of([]int{}))
}

// P2.2: powers of small, large and negative numbers.
func TestPower(t *testing.T) {
	wantPower(t, 0, 1)
	wantPower(t, 1, 1000003)
	wantPower(t, 2, 1000003*1000003%api.Prime)
	wantPower(t, -1, 1)
	wantPower(t, math.MinInt, 1)
	wantPower(t, api.Prime-1, 1)
	wantPower(t, api.Prime, api.Base)
	for _, n := range numbers() {
		wantPower(t, n, power(n))
	}
	p := 1
	for n := range 3000 {
		wantPower(t, n, p)
		p = p * api.Base % api.Prime
	}
}

// The consequences: Power(m + n) is Power(m) * Power(n) modulo P.
func TestPowerOfSums(t *testing.T) {
	for _, m := range numbers() {
		for _, n := range numbers() {
			if m >= 0 && n >= 0 && m <= math.MaxInt-n {
				wantPower(t, m+n, digest.Power(m)*digest.Power(n)%api.Prime)
			}
		}
	}
}

// P2.2: what is joined counts modulo P, also if it is negative or not below P, and so does the difference.
func TestJoin(t *testing.T) {
	wantJoin(t, 1, 1, 0, 1)
	wantJoin(t, 0, 0, 0, api.Prime-1)
	wantJoin(t, 0, 0, 1, api.Prime-api.Base)
	wantJoin(t, 5, 1, -3, 5)
	wantJoin(t, 5, 1, math.MinInt, 5)
	wantJoin(t, -1, 1, 0, api.Prime-1)
	wantJoin(t, api.Prime, api.Prime, 0, api.Prime-1)
	wantJoin(t, api.Prime-1, api.Prime-1, 0, api.Prime-3)
	wantJoin(t, math.MinInt, math.MinInt, math.MinInt, join(math.MinInt, math.MinInt, 0))
	wantJoin(t, math.MaxInt, math.MaxInt, math.MaxInt, join(math.MaxInt, math.MaxInt, math.MaxInt))
	all := numbers()
	for i, a := range all {
		for j, b := range all {
			n := all[(7*i+j)%len(all)]
			wantJoin(t, a, b, n, join(a, b, n))
		}
	}
}

// The consequences: a join of digests is the digest of the texts, one behind the other.
func TestJoinOfSums(t *testing.T) {
	for _, s := range texts() {
		for _, u := range texts() {
			want := digest.Sum(s + u)
			wantJoin(t, digest.Sum(s), digest.Sum(u), len(u), want)
			wantJoin(t, digest.Sum(s)-api.Prime, digest.Sum(u)+2*api.Prime, len(u), want)
		}
	}
}

// P2.3: a byte's power is its index, and the point counts modulo P.
func TestAtExamples(t *testing.T) {
	for _, x := range []int{0, 1, 5, -1, api.Prime, math.MaxInt, math.MinInt} {
		wantAt(t, "", x, 0)
		wantAt(t, "\x00", x, 1)
		wantAt(t, "a", x, 98)
		wantAt(t, "\xff", x, 256)
	}
	wantAt(t, "ab", 0, 98)
	wantAt(t, "ab", 1, 98+99)
	wantAt(t, "ab", 2, 98+99*2)
	wantAt(t, "abc", 10, 98+990+10000)
	wantAt(t, "\x00\x00\x00", 10, 111)
	wantAt(t, "ab", -1, api.Prime-1)
	wantAt(t, "ba", -1, 1)
	wantAt(t, "aa", -1, 0)
	wantAt(t, "ab", api.Prime, 98)
	wantAt(t, "ab", -api.Prime, 98)
	wantAt(t, "ab", api.Prime+2, 98+99*2)
	wantAt(t, "ab", 2-3*api.Prime, 98+99*2)
	wantAt(t, "\u00e9", 2, 0xc4+0xaa*2)
}

// P2.3: all texts at all points.
func TestAt(t *testing.T) {
	for _, s := range texts() {
		for _, x := range numbers() {
			wantAt(t, s, x, at(s, x))
		}
	}
}

// P2.1 and P2.3: results are from 0 to P - 1, also at the greatest factors.
func TestGreatestFactors(t *testing.T) {
	s := strings.Repeat("\xff", 1000)
	for _, x := range []int{api.Prime - 1, api.Prime - 2, -1, -2} {
		wantAt(t, s, x, at(s, x))
	}
	wantSum(t, s, sum(s))
}

// The consequences: texts of one length that differ in one byte have different digests, and different values at all points but 0.
func TestOneByte(t *testing.T) {
	for _, s := range []string{"a", "ab", "\x00\x00\x00", "\xff\xff\xff\xff", "hello world"} {
		for i := range s {
			for b := range 256 {
				if byte(b) != s[i] {
					wantDifferent(t, s, s[:i]+string([]byte{byte(b)})+s[i+1:])
				}
			}
		}
	}
}

func wantDifferent(t *testing.T, s, u string) {
	t.Helper()
	if digest.Sum(s) == digest.Sum(u) {
		t.Errorf("%q and %q have one digest", s, u)
	}
	for _, x := range []int{1, 2, -1, 1000, api.Prime - 1, api.Prime + 1, math.MaxInt, math.MinInt} {
		if digest.At(s, x) == digest.At(u, x) {
			t.Errorf("%q and %q have one value at %d", s, u, x)
		}
	}
	for _, x := range []int{0, api.Prime, -api.Prime} {
		if same := digest.At(s, x) == digest.At(u, x); same != (s[0] == u[0]) {
			t.Errorf("%q and %q have one value at %d: %t", s, u, x, same)
		}
	}
}
