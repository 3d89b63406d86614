package field_test

import (
	"math"
	"math/big"
	"testing"

	"storagebarter/api"
	"storagebarter/field"
)

// powers is the powers of 2, from 0 to 14.
var powers = [15]int{1, 2, 4, 8, 3, 6, 12, 11, 5, 10, 7, 14, 15, 13, 9}

// inverses is the inverse of each element but 0.
var inverses = [16]int{0, 1, 9, 14, 13, 11, 7, 6, 15, 2, 12, 5, 10, 4, 3, 8}

// noElements returns numbers that are no elements: next to the bounds, such as end in the bits of an element, and the least and greatest ones.
func noElements() []int {
	return []int{-1, -2, -15, -16, -17, 16, 17, 18, 19, 31, 32, 240, 255, 256, 257, 1<<16 + 1, 1 << 31, 1<<32 + 2, -1 << 32, 1 << 62, math.MinInt, math.MinInt + 1, math.MinInt + 15, math.MaxInt - 1, math.MaxInt}
}

// exponents returns exponents: around 0, around multiples of 15, and the least and greatest ones.
func exponents() []int {
	var l []int
	for n := -64; n <= 64; n++ {
		l = append(l, n)
	}
	for _, m := range []int{1 << 31, 1 << 32, 1 << 40, 1 << 62} {
		for n := m - m%15 - 17; n <= m-m%15+17; n++ {
			l = append(l, n, -n)
		}
	}
	for n := range 33 {
		l = append(l, math.MinInt+n, math.MaxInt-n)
	}
	return l
}

// sum is the definition of the sum: bit by bit, without carry.
func sum(a, b int) int {
	s := 0
	for bit := 1; bit < 16; bit *= 2 {
		if a/bit%2 != b/bit%2 {
			s += bit
		}
	}
	return s
}

// product is the definition of the product: all coefficients first, and then x^4 is x + 1, from the highest one on.
func product(a, b int) int {
	var c [7]int
	for i := range 4 {
		for k := range 4 {
			c[i+k] += a >> i % 2 * (b >> k % 2)
		}
	}
	for i := 6; i >= 4; i-- {
		c[i-3] += c[i]
		c[i-4] += c[i]
	}
	return c[0]%2 + c[1]%2*2 + c[2]%2*4 + c[3]%2*8
}

// power is the definition of the power, for an exponent that has few factors.
func power(a, n int) int {
	if n < 0 {
		a, n = inverses[a], -n
	}
	p := 1
	for range n {
		p = product(p, a)
	}
	return p
}

// residue is n modulo 15, from 0 to 14, in numbers without bounds.
func residue(n int) int {
	return int(new(big.Int).Mod(big.NewInt(int64(n)), big.NewInt(15)).Int64())
}

func wantAdd(t *testing.T, a, b, s int, e api.Errno) {
	t.Helper()
	if got, gotE := field.Add(a, b); got != s || gotE != e {
		t.Errorf("Add(%d, %d) = %d, %d, want %d, %d", a, b, got, gotE, s, e)
	}
}

func wantMul(t *testing.T, a, b, p int, e api.Errno) {
	t.Helper()
	if got, gotE := field.Mul(a, b); got != p || gotE != e {
		t.Errorf("Mul(%d, %d) = %d, %d, want %d, %d", a, b, got, gotE, p, e)
	}
}

func wantInverse(t *testing.T, a, b int, e api.Errno) {
	t.Helper()
	if got, gotE := field.Inverse(a); got != b || gotE != e {
		t.Errorf("Inverse(%d) = %d, %d, want %d, %d", a, got, gotE, b, e)
	}
}

func wantPower(t *testing.T, a, n, p int, e api.Errno) {
	t.Helper()
	if got, gotE := field.Power(a, n); got != p || gotE != e {
		t.Errorf("Power(%d, %d) = %d, %d, want %d, %d", a, n, got, gotE, p, e)
	}
}

func wantLog(t *testing.T, a, n int, e api.Errno) {
	t.Helper()
	if got, gotE := field.Log(a); got != n || gotE != e {
		t.Errorf("Log(%d) = %d, %d, want %d, %d", a, got, gotE, n, e)
	}
}

// mul returns the product of two elements.
func mul(t *testing.T, a, b int) int {
	t.Helper()
	p, e := field.Mul(a, b)
	if e != api.OK {
		t.Fatalf("Mul(%d, %d): %d", a, b, e)
	}
	return p
}

// add returns the sum of two elements.
func add(t *testing.T, a, b int) int {
	t.Helper()
	s, e := field.Add(a, b)
	if e != api.OK {
		t.Fatalf("Add(%d, %d): %d", a, b, e)
	}
	return s
}

// P5.1: the definition, for all pairs.
func TestAdd(t *testing.T) {
	wantAdd(t, 5, 3, 6, api.OK)
	wantAdd(t, 15, 15, 0, api.OK)
	wantAdd(t, 15, 0, 15, api.OK)
	for a := range 16 {
		for b := range 16 {
			wantAdd(t, a, b, sum(a, b), api.OK)
		}
	}
}

// P5.1: the definition, for all pairs, and the chapter's example.
func TestMul(t *testing.T) {
	for _, x := range [][3]int{{8, 2, 3}, {2, 8, 3}, {2, 9, 1}, {9, 9, 13}, {15, 15, 10}, {12, 5, 9}, {7, 1, 7}, {0, 0, 0}, {0, 15, 0}} {
		wantMul(t, x[0], x[1], x[2], api.OK)
	}
	for a := range 16 {
		for b := range 16 {
			wantMul(t, a, b, product(a, b), api.OK)
		}
	}
}

// P5.1: one of the two is no element, whatever the other one is.
func TestAddAndMulOfNoElements(t *testing.T) {
	for _, a := range noElements() {
		for b := range 16 {
			wantAdd(t, a, b, 0, api.ErrRange)
			wantAdd(t, b, a, 0, api.ErrRange)
			wantMul(t, a, b, 0, api.ErrRange)
			wantMul(t, b, a, 0, api.ErrRange)
		}
		for _, b := range noElements() {
			wantAdd(t, a, b, 0, api.ErrRange)
			wantMul(t, a, b, 0, api.ErrRange)
		}
	}
}

// P5.2: all elements, and the chapter's example.
func TestInverse(t *testing.T) {
	wantInverse(t, 2, 9, api.OK)
	for a := 1; a < 16; a++ {
		wantInverse(t, a, inverses[a], api.OK)
		wantMul(t, a, inverses[a], 1, api.OK)
	}
}

// P5.2: the errors of Inverse.
func TestInverseErrors(t *testing.T) {
	wantInverse(t, 0, 0, api.ErrNone)
	for _, a := range noElements() {
		wantInverse(t, a, 0, api.ErrRange)
	}
}

// P5.2: ordinary exponents of either sign, and the chapter's example.
func TestPower(t *testing.T) {
	for _, x := range [][3]int{{2, -1, 9}, {2, 1, 2}, {2, 4, 3}, {2, 14, 9}, {2, 15, 1}, {2, 16, 2}, {2, -14, 2}, {2, -15, 1}, {2, -16, 9}, {3, 2, 5}, {6, 3, 1}, {6, -2, 6}, {7, 5, 6}, {15, 2, 10}, {15, -1, 8}, {1, 7, 1}, {1, -7, 1}} {
		wantPower(t, x[0], x[1], x[2], api.OK)
	}
	for a := 1; a < 16; a++ {
		for n := -64; n <= 64; n++ {
			wantPower(t, a, n, power(a, n), api.OK)
		}
	}
}

// P5.2: the exponent 0, also of the element 0.
func TestPowerOfExponentZero(t *testing.T) {
	for a := range 16 {
		wantPower(t, a, 0, 1, api.OK)
	}
}

// P5.2: powers of 0 are 0, also where the exponent is a multiple of 15, and there are none with negative exponents.
func TestPowerOfZero(t *testing.T) {
	for _, n := range exponents() {
		switch {
		case n > 0:
			wantPower(t, 0, n, 0, api.OK)
		case n == 0:
			wantPower(t, 0, n, 1, api.OK)
		default:
			wantPower(t, 0, n, 0, api.ErrNone)
		}
	}
}

// P5.2 and the consequences: the exponent counts modulo 15, up to the least and the greatest one.
func TestPowerOfGreatExponents(t *testing.T) {
	wantPower(t, 2, math.MinInt, 11, api.OK)   // -8
	wantPower(t, 2, math.MaxInt, 11, api.OK)   // 7
	wantPower(t, 2, math.MinInt+1, 5, api.OK)  // -7
	wantPower(t, 2, math.MaxInt-1, 12, api.OK) // 6
	for a := 1; a < 16; a++ {
		for _, n := range exponents() {
			wantPower(t, a, n, power(a, residue(n)), api.OK)
		}
	}
}

// P5.2: what is no element has no power, whatever the exponent is.
func TestPowerOfNoElements(t *testing.T) {
	for _, a := range noElements() {
		for _, n := range exponents() {
			wantPower(t, a, n, 0, api.ErrRange)
		}
	}
}

// P5.2: all elements.
func TestLog(t *testing.T) {
	for n, a := range powers {
		wantLog(t, a, n, api.OK)
		wantPower(t, 2, n, a, api.OK)
	}
}

// P5.2: the errors of Log.
func TestLogErrors(t *testing.T) {
	wantLog(t, 0, 0, api.ErrNone)
	for _, a := range noElements() {
		wantLog(t, a, 0, api.ErrRange)
	}
}

// The consequences: the elements are a field.
func TestLawsOfAField(t *testing.T) {
	for a := range 16 {
		wantAdd(t, a, 0, a, api.OK)
		wantAdd(t, a, a, 0, api.OK)
		wantMul(t, a, 1, a, api.OK)
		for b := range 16 {
			wantAdd(t, b, a, add(t, a, b), api.OK)
			wantMul(t, b, a, mul(t, a, b), api.OK)
			for c := range 16 {
				wantAdd(t, add(t, a, b), c, add(t, a, add(t, b, c)), api.OK)
				wantMul(t, mul(t, a, b), c, mul(t, a, mul(t, b, c)), api.OK)
				wantMul(t, a, add(t, b, c), add(t, mul(t, a, b), mul(t, a, c)), api.OK)
			}
		}
		if b, e := field.Inverse(a); a != 0 && (e != api.OK || mul(t, a, b) != 1 || mul(t, b, a) != 1) {
			t.Errorf("Inverse(%d) = %d, %d is none", a, b, e)
		}
	}
}

// The consequences: the elements but 0 are the powers of 2, from 0 to 14.
func TestPowersOfTwo(t *testing.T) {
	var seen [16]bool
	for n := range 15 {
		a, e := field.Power(2, n)
		if e != api.OK || a < 1 || a > 15 || seen[a] {
			t.Fatalf("Power(2, %d) = %d, %d", n, a, e)
		}
		seen[a] = true
		wantLog(t, a, n, api.OK)
	}
}
