package matrix_test

import (
	"math"
	"math/rand"
	"slices"
	"testing"
	"unsafe"

	"storagebarter/api"
	"storagebarter/matrix"
)

// powers is the powers of 2, from 0 to 14: the elements but 0.
var powers = [15]int{1, 2, 4, 8, 3, 6, 12, 11, 5, 10, 7, 14, 15, 13, 9}

// times is the product of two elements, by their logarithms.
func times(a, b int) int {
	if a == 0 || b == 0 {
		return 0
	}
	return powers[(slices.Index(powers[:], a)+slices.Index(powers[:], b))%15]
}

// inverse is the element whose product with another one, which is not 0, is 1.
func inverse(a int) int {
	return powers[(15-slices.Index(powers[:], a))%15]
}

// of returns a matrix with some columns.
func of(columns int, cells ...int) api.Matrix {
	return api.Matrix{Rows: len(cells) / columns, Columns: columns, Cells: cells}
}

// zeros returns a matrix whose elements are 0.
func zeros(rows, columns int) api.Matrix {
	return api.Matrix{Rows: rows, Columns: columns, Cells: make([]int, rows*columns)}
}

func at(m api.Matrix, i, k int) int {
	return m.Cells[i*m.Columns+k]
}

// one is the definition of the identity.
func one(n int) api.Matrix {
	m := zeros(n, n)
	for i := range n {
		m.Cells[i*n+i] = 1
	}
	return m
}

// product is the definition of the product.
func product(a, b api.Matrix) api.Matrix {
	p := zeros(a.Rows, b.Columns)
	for i := range a.Rows {
		for k := range b.Columns {
			for j := range a.Columns {
				p.Cells[i*b.Columns+k] ^= times(at(a, i, j), at(b, j, k))
			}
		}
	}
	return p
}

// part returns a matrix of some rows and columns of another one.
func part(m api.Matrix, rows, columns []int) api.Matrix {
	var l []int
	for _, i := range rows {
		for _, k := range columns {
			l = append(l, at(m, i, k))
		}
	}
	return api.Matrix{Rows: len(rows), Columns: len(columns), Cells: l}
}

// turned returns a matrix whose rows are the columns of another one.
func turned(m api.Matrix) api.Matrix {
	t := zeros(m.Columns, m.Rows)
	for i := range m.Rows {
		for k := range m.Columns {
			t.Cells[k*m.Rows+i] = at(m, i, k)
		}
	}
	return t
}

// upTo returns the numbers below n.
func upTo(n int) []int {
	var l []int
	for i := range n {
		l = append(l, i)
	}
	return l
}

// without returns the numbers below n but one.
func without(n, x int) []int {
	return slices.Delete(upTo(n), x, x+1)
}

// choices returns all ascending choices of r of the numbers below n.
func choices(n, r int) [][]int {
	if r == 0 {
		return [][]int{nil}
	}
	var l [][]int
	for last := r - 1; last < n; last++ {
		for _, c := range choices(last, r-1) {
			l = append(l, append(slices.Clone(c), last))
		}
	}
	return l
}

// determinant is the definition of the determinant, by the first row.
func determinant(m api.Matrix) int {
	if m.Rows == 1 {
		return m.Cells[0]
	}
	d := 0
	for k := range m.Columns {
		d ^= times(at(m, 0, k), determinant(part(m, without(m.Rows, 0), without(m.Columns, k))))
	}
	return d
}

// rank is the number of rows of the greatest square part whose determinant is not 0.
func rank(m api.Matrix) int {
	for r := min(m.Rows, m.Columns); r > 0; r-- {
		for _, rows := range choices(m.Rows, r) {
			for _, columns := range choices(m.Columns, r) {
				if determinant(part(m, rows, columns)) != 0 {
					return r
				}
			}
		}
	}
	return 0
}

// random returns a matrix of any elements.
func random(r *rand.Rand, rows, columns int) api.Matrix {
	m := zeros(rows, columns)
	for i := range m.Cells {
		m.Cells[i] = r.Intn(16)
	}
	return m
}

// shuffled returns a matrix whose rows are those of another one, in another order.
func shuffled(r *rand.Rand, m api.Matrix) api.Matrix {
	return part(m, r.Perm(m.Rows), upTo(m.Columns))
}

// regular returns a matrix that has an inverse: a lower triangle of rows in any order, times an upper one.
func regular(r *rand.Rand, n int) api.Matrix {
	lower, upper := random(r, n, n), random(r, n, n)
	for i := range n {
		for k := range n {
			switch {
			case i < k:
				lower.Cells[i*n+k] = 0
			case i > k:
				upper.Cells[i*n+k] = 0
			default:
				lower.Cells[i*n+k], upper.Cells[i*n+k] = 1+r.Intn(15), 1+r.Intn(15)
			}
		}
	}
	return product(shuffled(r, lower), upper)
}

// ofRank returns a matrix of a rank: matrices that have inverses to the left and to the right of so many ones.
func ofRank(r *rand.Rand, rows, columns, rank int) api.Matrix {
	ones := zeros(rows, columns)
	for i := range rank {
		ones.Cells[i*columns+i] = 1
	}
	return product(product(regular(r, rows), ones), regular(r, columns))
}

// noLengths returns numbers of which a matrix cannot have rows or columns.
func noLengths() []int {
	return []int{0, -1, -2, -15, -16, -17, 17, 18, 32, 255, 256, 257, 1<<16 + 1, 1 << 31, 1<<32 + 1, 1 << 61, 1 << 62, math.MinInt, math.MinInt + 1, math.MinInt + 16, math.MaxInt - 1, math.MaxInt}
}

// noElements returns numbers that are no elements.
func noElements() []int {
	return []int{-1, -2, -15, -16, -17, 16, 17, 18, 31, 32, 255, 256, 257, 1 << 31, 1<<32 + 2, -1 << 32, 1 << 62, math.MinInt, math.MinInt + 1, math.MinInt + 15, math.MaxInt - 1, math.MaxInt}
}

// wrong is a matrix that is not valid, and its error.
type wrong struct {
	m api.Matrix
	e api.Errno
}

// wrongs returns matrices that are not valid: each error, and several of them at once.
func wrongs() []wrong {
	l := []wrong{{api.Matrix{}, api.ErrRange}, {api.Matrix{Cells: []int{16}}, api.ErrRange}}
	for _, n := range noLengths() {
		for _, k := range []int{1, 2, 4, 16, n} {
			l = append(l, wrong{api.Matrix{Rows: n, Columns: k}, api.ErrRange}, wrong{api.Matrix{Rows: k, Columns: n}, api.ErrRange})
			l = append(l, wrong{api.Matrix{Rows: n, Columns: k, Cells: []int{0}}, api.ErrRange}, wrong{api.Matrix{Rows: k, Columns: n, Cells: []int{99}}, api.ErrRange})
		}
	}
	for _, k := range []int{1, 15, 16} {
		m := zeros(17, k)
		l = append(l, wrong{m, api.ErrRange}, wrong{turned(m), api.ErrRange})
	}
	for _, x := range noElements() {
		l = append(l, wrong{of(1, x), api.ErrRange}, wrong{of(2, x, 0, 15, 1), api.ErrRange}, wrong{of(2, 1, 0, 15, x), api.ErrRange}, wrong{of(3, 1, x, 15), api.ErrRange})
		l = append(l, wrong{api.Matrix{Rows: 1, Columns: 1, Cells: []int{1, x}}, api.ErrForm}, wrong{api.Matrix{Rows: 2, Columns: 2, Cells: []int{1, x, 1}}, api.ErrForm})
	}
	for rows := 1; rows <= 16; rows++ {
		for columns := 1; columns <= 16; columns++ {
			n := rows * columns
			for _, cells := range []int{0, n - 1, n + 1, n + columns, 2 * n, 256} {
				if cells != n {
					l = append(l, wrong{api.Matrix{Rows: rows, Columns: columns, Cells: make([]int, cells)}, api.ErrForm})
				}
			}
			last := zeros(rows, columns)
			last.Cells[n-1] = 16
			l = append(l, wrong{last, api.ErrRange})
		}
	}
	return l
}

func wantMatrix(t *testing.T, what string, got api.Matrix, gotE api.Errno, m api.Matrix, e api.Errno) {
	t.Helper()
	if got.Rows != m.Rows || got.Columns != m.Columns || !slices.Equal(got.Cells, m.Cells) || gotE != e {
		t.Errorf("%s = %v, %d, want %v, %d", what, got, gotE, m, e)
	}
}

func wantCheck(t *testing.T, m api.Matrix, e api.Errno) {
	t.Helper()
	if got := matrix.Check(m); got != e {
		t.Errorf("Check(%v) = %d, want %d", m, got, e)
	}
}

func wantIdentity(t *testing.T, n int, m api.Matrix, e api.Errno) {
	t.Helper()
	got, gotE := matrix.Identity(n)
	wantMatrix(t, "Identity", got, gotE, m, e)
}

func wantProduct(t *testing.T, a, b, p api.Matrix, e api.Errno) {
	t.Helper()
	got, gotE := matrix.Product(a, b)
	wantMatrix(t, "Product", got, gotE, p, e)
}

func wantRank(t *testing.T, m api.Matrix, r int, e api.Errno) {
	t.Helper()
	if got, gotE := matrix.Rank(m); got != r || gotE != e {
		t.Errorf("Rank(%v) = %d, %d, want %d, %d", m, got, gotE, r, e)
	}
}

func wantInverse(t *testing.T, m, x api.Matrix, e api.Errno) {
	t.Helper()
	got, gotE := matrix.Inverse(m)
	wantMatrix(t, "Inverse", got, gotE, x, e)
}

func wantPick(t *testing.T, m api.Matrix, rows []int, p api.Matrix, e api.Errno) {
	t.Helper()
	got, gotE := matrix.Pick(m, rows)
	wantMatrix(t, "Pick", got, gotE, p, e)
}

func wantCauchy(t *testing.T, rows, columns int, m api.Matrix, e api.Errno) {
	t.Helper()
	got, gotE := matrix.Cauchy(rows, columns)
	wantMatrix(t, "Cauchy", got, gotE, m, e)
}

func wantSame(t *testing.T, a, b api.Matrix, same bool) {
	t.Helper()
	if matrix.Same(a, b) != same || matrix.Same(b, a) != same {
		t.Errorf("Same(%v, %v) is not %v", a, b, same)
	}
}

// inverted returns the inverse of a matrix that has one, after a look at both products.
func inverted(t *testing.T, m api.Matrix) api.Matrix {
	t.Helper()
	x, e := matrix.Inverse(m)
	if e != api.OK || x.Rows != m.Rows || x.Columns != m.Rows || len(x.Cells) != m.Rows*m.Rows {
		t.Fatalf("Inverse(%v) = %v, %d", m, x, e)
	}
	for _, p := range []api.Matrix{product(m, x), product(x, m)} {
		wantMatrix(t, "a matrix times its inverse", p, e, one(m.Rows), api.OK)
	}
	return x
}

func cauchy(t *testing.T, rows, columns int) api.Matrix {
	t.Helper()
	m, e := matrix.Cauchy(rows, columns)
	if e != api.OK {
		t.Fatalf("Cauchy(%d, %d): %d", rows, columns, e)
	}
	return m
}

// P6.1: matrices of all sizes, and of all elements.
func TestCheck(t *testing.T) {
	for x := range 16 {
		wantCheck(t, of(1, x), api.OK)
	}
	wantCheck(t, of(2, 0, 15, 1, 14), api.OK)
	for rows := 1; rows <= 16; rows++ {
		for columns := 1; columns <= 16; columns++ {
			m := zeros(rows, columns)
			wantCheck(t, m, api.OK)
			for i := range m.Cells {
				m.Cells[i] = 15
			}
			wantCheck(t, m, api.OK)
		}
	}
}

// P6.1: the errors of Check, in their order.
func TestCheckErrors(t *testing.T) {
	wantCheck(t, api.Matrix{}, api.ErrRange)
	wantCheck(t, api.Matrix{Rows: 17, Columns: 1, Cells: []int{16}}, api.ErrRange)
	wantCheck(t, api.Matrix{Rows: 1, Columns: 0}, api.ErrRange)
	wantCheck(t, api.Matrix{Rows: -1, Columns: -1, Cells: []int{1}}, api.ErrRange)
	wantCheck(t, api.Matrix{Rows: 1, Columns: 1}, api.ErrForm)
	wantCheck(t, api.Matrix{Rows: 2, Columns: 1, Cells: []int{16}}, api.ErrForm)
	wantCheck(t, of(1, 16), api.ErrRange)
	wantCheck(t, of(1, -1), api.ErrRange)
	for _, x := range wrongs() {
		wantCheck(t, x.m, x.e)
	}
}

// P6.1: all sizes.
func TestIdentity(t *testing.T) {
	wantIdentity(t, 1, of(1, 1), api.OK)
	wantIdentity(t, 3, of(3, 1, 0, 0, 0, 1, 0, 0, 0, 1), api.OK)
	for n := 1; n <= 16; n++ {
		wantIdentity(t, n, one(n), api.OK)
	}
}

// P6.1: no identity has so many rows.
func TestIdentityErrors(t *testing.T) {
	for _, n := range noLengths() {
		wantIdentity(t, n, api.Matrix{}, api.ErrRange)
	}
}

// P6.1: equal matrices, and such as differ in one number.
func TestSame(t *testing.T) {
	wantSame(t, of(2, 1, 2, 3, 4), of(2, 1, 2, 3, 4), true)
	wantSame(t, of(2, 1, 2, 3, 4), of(2, 1, 3, 2, 4), false)
	wantSame(t, of(2, 1, 2), of(1, 1, 2), false)
	wantSame(t, of(1, 1), of(2, 1, 1), false)
	wantSame(t, of(1, 1), of(1, 1, 1), false)
	r := rand.New(rand.NewSource(1))
	for rows := 1; rows <= 16; rows++ {
		for columns := 1; columns <= 16; columns++ {
			m := random(r, rows, columns)
			wantSame(t, m, part(m, upTo(rows), upTo(columns)), true)
			wantSame(t, m, turned(m), rows == columns && slices.Equal(m.Cells, turned(m).Cells))
			for i := range m.Cells {
				other := api.Matrix{Rows: rows, Columns: columns, Cells: slices.Clone(m.Cells)}
				other.Cells[i] ^= 1 << r.Intn(4)
				wantSame(t, m, other, false)
			}
		}
	}
}

// P6.1: matrices that are not valid are equal or not too, and nil is an empty list (R2).
func TestSameOfNoMatrices(t *testing.T) {
	wantSame(t, api.Matrix{}, api.Matrix{}, true)
	wantSame(t, api.Matrix{}, api.Matrix{Cells: []int{}}, true)
	wantSame(t, api.Matrix{Rows: 1, Columns: 1}, api.Matrix{Rows: 1, Columns: 1, Cells: []int{}}, true)
	wantSame(t, api.Matrix{}, api.Matrix{Cells: []int{0}}, false)
	wantSame(t, of(1, 0), api.Matrix{Rows: 1, Columns: 1}, false)
	wantSame(t, of(1, 1, 2), api.Matrix{Rows: 2, Columns: 1, Cells: []int{1, 2, 0}}, false)
	wantSame(t, api.Matrix{Rows: 1}, api.Matrix{Columns: 1}, false)
	wantSame(t, of(1, 0), of(1, 16), false)
	wantSame(t, of(1, math.MinInt), of(1, math.MaxInt), false)
	for _, x := range wrongs() {
		wantSame(t, x.m, api.Matrix{Rows: x.m.Rows, Columns: x.m.Columns, Cells: slices.Clone(x.m.Cells)}, true)
		wantSame(t, x.m, api.Matrix{Rows: x.m.Rows + 1, Columns: x.m.Columns, Cells: x.m.Cells}, false)
		wantSame(t, x.m, api.Matrix{Rows: x.m.Rows, Columns: x.m.Columns - 1, Cells: x.m.Cells}, false)
		wantSame(t, x.m, api.Matrix{Rows: x.m.Rows, Columns: x.m.Columns, Cells: append(slices.Clone(x.m.Cells), 0)}, false)
	}
}

// P6.2: the definition, for factors of all sizes.
func TestProduct(t *testing.T) {
	wantProduct(t, of(2, 1, 9), of(1, 9, 9), of(1, 4), api.OK)
	wantProduct(t, of(1, 9, 9), of(2, 1, 9), of(2, 9, 13, 9, 13), api.OK)
	wantProduct(t, of(1, 8), of(1, 2), of(1, 3), api.OK)
	wantProduct(t, of(2, 0, 1, 1, 0), of(3, 1, 2, 3, 4, 5, 6), of(3, 4, 5, 6, 1, 2, 3), api.OK)
	wantProduct(t, of(2, 15, 15), of(1, 15, 15), of(1, 0), api.OK)
	for a := range 16 {
		for b := range 16 {
			wantProduct(t, of(1, a), of(1, b), of(1, times(a, b)), api.OK)
		}
	}
	r := rand.New(rand.NewSource(2))
	for rows := 1; rows <= 16; rows++ {
		for inner := 1; inner <= 16; inner++ {
			for columns := 1; columns <= 16; columns++ {
				a, b := random(r, rows, inner), random(r, inner, columns)
				wantProduct(t, a, b, product(a, b), api.OK)
			}
		}
	}
}

// P6.2: the order of the factors counts, and the identity and zeros are what they are.
func TestProductOfIdentityAndZeros(t *testing.T) {
	a, b := of(2, 1, 2, 3, 4), of(2, 5, 6, 7, 8)
	wantProduct(t, a, b, of(2, 11, 5, 0, 12), api.OK)
	wantProduct(t, b, a, of(2, 15, 1, 12, 8), api.OK)
	r := rand.New(rand.NewSource(3))
	for rows := 1; rows <= 16; rows++ {
		for columns := 1; columns <= 16; columns++ {
			m := random(r, rows, columns)
			wantProduct(t, one(rows), m, m, api.OK)
			wantProduct(t, m, one(columns), m, api.OK)
			wantProduct(t, zeros(3, rows), m, zeros(3, columns), api.OK)
			wantProduct(t, m, zeros(columns, 16), zeros(rows, 16), api.OK)
		}
	}
}

// P6.2: factors that do not fit.
func TestProductOfFactorsThatDoNotFit(t *testing.T) {
	wantProduct(t, of(2, 1, 2), of(2, 1, 2), api.Matrix{}, api.ErrForm)
	for a := 1; a <= 16; a++ {
		for b := 1; b <= 16; b++ {
			if a != b {
				wantProduct(t, zeros(b, a), zeros(b, a), api.Matrix{}, api.ErrForm)
				wantProduct(t, zeros(1, a), zeros(b, 1), api.Matrix{}, api.ErrForm)
			}
		}
	}
}

// P6.2: the errors of the factors come before those of their sizes, and those of the first factor before those of the second one.
func TestProductErrors(t *testing.T) {
	form := api.Matrix{Rows: 1, Columns: 1, Cells: []int{1, 2}}
	for _, x := range wrongs() {
		wantProduct(t, x.m, of(1, 1), api.Matrix{}, x.e)
		wantProduct(t, of(1, 1), x.m, api.Matrix{}, x.e)
		wantProduct(t, zeros(16, 16), x.m, api.Matrix{}, x.e)
		wantProduct(t, x.m, form, api.Matrix{}, x.e)
		wantProduct(t, x.m, api.Matrix{}, api.Matrix{}, x.e)
		wantProduct(t, form, x.m, api.Matrix{}, api.ErrForm)
		wantProduct(t, api.Matrix{}, x.m, api.Matrix{}, api.ErrRange)
	}
}

// P6.2: ordinary matrices, rows of zeros, equal rows, and rows that are multiples or sums of others.
func TestRank(t *testing.T) {
	for _, x := range []struct {
		m api.Matrix
		r int
	}{
		{of(1, 0), 0}, {of(1, 1), 1}, {of(1, 15), 1}, {of(3, 0, 0, 0), 0}, {of(3, 1, 2, 3), 1}, {of(3, 0, 0, 7), 1}, {of(1, 0, 5, 3), 1}, {of(1, 0, 0, 0), 0},
		{of(2, 1, 2, 2, 4), 1}, {of(2, 1, 2, 2, 3), 2}, {of(2, 0, 0, 0, 9), 1}, {of(2, 0, 1, 1, 0), 2}, {of(2, 3, 3, 3, 3), 1}, {of(2, 1, 2, 2, 4, 1, 1), 2},
		{of(3, 0, 0, 1, 0, 1, 0), 2}, {of(3, 1, 2, 3, 4, 5, 6, 5, 7, 5), 2}, {of(3, 1, 2, 3, 0, 0, 0, 1, 2, 3), 1}, {of(3, 0, 1, 2, 0, 3, 4, 0, 5, 6), 2}, {of(3, 0, 0, 1, 0, 0, 2, 1, 0, 0), 2},
	} {
		wantRank(t, x.m, x.r, api.OK)
		wantRank(t, turned(x.m), x.r, api.OK)
	}
}

// P6.2: the determinants of the square parts of small matrices, of which some elements are 0.
func TestRankBySquareParts(t *testing.T) {
	r := rand.New(rand.NewSource(4))
	for rows := 1; rows <= 4; rows++ {
		for columns := 1; columns <= 4; columns++ {
			for n := range 60 {
				m := random(r, rows, columns)
				for i := range m.Cells {
					if r.Intn(4) < n%4 {
						m.Cells[i] &= 1
					}
				}
				wantRank(t, m, rank(m), api.OK)
			}
		}
	}
}

// P6.2: matrices of all sizes and all ranks.
func TestRankOfAllSizes(t *testing.T) {
	r := rand.New(rand.NewSource(5))
	for rows := 1; rows <= 16; rows++ {
		for columns := 1; columns <= 16; columns++ {
			wantRank(t, zeros(rows, columns), 0, api.OK)
			for n := range min(rows, columns) + 1 {
				wantRank(t, ofRank(r, rows, columns, n), n, api.OK)
			}
		}
	}
}

// P6.2: the error of Rank.
func TestRankErrors(t *testing.T) {
	for _, x := range wrongs() {
		wantRank(t, x.m, 0, x.e)
	}
}

// P6.2: ordinary matrices.
func TestInverse(t *testing.T) {
	wantInverse(t, of(1, 2), of(1, 9), api.OK)
	wantInverse(t, of(2, 0, 1, 1, 0), of(2, 0, 1, 1, 0), api.OK)
	wantInverse(t, of(2, 2, 0, 0, 9), of(2, 9, 0, 0, 2), api.OK)
	wantInverse(t, of(2, 1, 5, 0, 1), of(2, 1, 5, 0, 1), api.OK)
	wantInverse(t, of(2, 0, 2, 1, 0), of(2, 0, 1, 9, 0), api.OK)
	wantInverse(t, of(3, 0, 1, 0, 0, 0, 1, 1, 0, 0), of(3, 0, 0, 1, 1, 0, 0, 0, 1, 0), api.OK)
	for a := 1; a < 16; a++ {
		wantInverse(t, of(1, a), of(1, inverse(a)), api.OK)
	}
	for n := 1; n <= 16; n++ {
		wantInverse(t, one(n), one(n), api.OK)
	}
}

// P6.2: all matrices of two rows and columns, by their determinants.
func TestInverseOfTwoRows(t *testing.T) {
	for n := range 1 << 16 {
		a, b, c, d := n>>12, n>>8&15, n>>4&15, n&15
		m := of(2, a, b, c, d)
		det := times(a, d) ^ times(b, c)
		if det == 0 {
			wantInverse(t, m, api.Matrix{}, api.ErrRank)
			continue
		}
		x := inverse(det)
		wantInverse(t, m, of(2, times(d, x), times(b, x), times(c, x), times(a, x)), api.OK)
	}
}

// P6.2 and the consequences: matrices of all sizes that have inverses, whose inverses are these matrices.
func TestInverseOfAllSizes(t *testing.T) {
	r := rand.New(rand.NewSource(6))
	for n := 1; n <= 16; n++ {
		for range 12 {
			m := regular(r, n)
			wantInverse(t, inverted(t, m), m, api.OK)
			order := shuffled(r, one(n))
			wantInverse(t, order, turned(order), api.OK)
		}
	}
}

// P6.2: matrices of all sizes that have no inverse.
func TestInverseOfLessThanFullRank(t *testing.T) {
	r := rand.New(rand.NewSource(7))
	wantInverse(t, of(1, 0), api.Matrix{}, api.ErrRank)
	wantInverse(t, of(2, 1, 2, 2, 4), api.Matrix{}, api.ErrRank)
	wantInverse(t, of(3, 0, 1, 2, 0, 3, 4, 0, 5, 7), api.Matrix{}, api.ErrRank)
	for n := 1; n <= 16; n++ {
		for less := range n {
			wantInverse(t, ofRank(r, n, n, less), api.Matrix{}, api.ErrRank)
			row := regular(r, n)
			clear(row.Cells[less*n : (less+1)*n])
			wantInverse(t, row, api.Matrix{}, api.ErrRank)
			wantInverse(t, turned(row), api.Matrix{}, api.ErrRank)
		}
		for k := 1; k < n; k++ {
			equal := regular(r, n)
			copy(equal.Cells[k*n:(k+1)*n], equal.Cells[:n])
			wantInverse(t, equal, api.Matrix{}, api.ErrRank)
			wantInverse(t, turned(equal), api.Matrix{}, api.ErrRank)
		}
	}
}

// P6.2: matrices that are not square have no inverse, of whatever rank they are.
func TestInverseOfNoSquare(t *testing.T) {
	r := rand.New(rand.NewSource(8))
	for rows := 1; rows <= 16; rows++ {
		for columns := 1; columns <= 16; columns++ {
			if rows != columns {
				wantInverse(t, zeros(rows, columns), api.Matrix{}, api.ErrForm)
				wantInverse(t, ofRank(r, rows, columns, min(rows, columns)), api.Matrix{}, api.ErrForm)
			}
		}
	}
}

// P6.2: the error of Check comes first, also of matrices that are not square.
func TestInverseErrors(t *testing.T) {
	wantInverse(t, of(2, 1, 16), api.Matrix{}, api.ErrRange)
	for _, x := range wrongs() {
		wantInverse(t, x.m, api.Matrix{}, x.e)
	}
}

// P6.2: rows in any order, and rows that are picked more than once.
func TestPick(t *testing.T) {
	m := of(2, 1, 2, 3, 4, 5, 6)
	for _, x := range []struct {
		rows []int
		want api.Matrix
	}{
		{[]int{0}, of(2, 1, 2)}, {[]int{2}, of(2, 5, 6)}, {[]int{0, 1, 2}, m}, {[]int{2, 1, 0}, of(2, 5, 6, 3, 4, 1, 2)}, {[]int{2, 0, 2}, of(2, 5, 6, 1, 2, 5, 6)}, {[]int{1, 1}, of(2, 3, 4, 3, 4)}, {[]int{1, 1, 1, 1, 0}, of(2, 3, 4, 3, 4, 3, 4, 3, 4, 1, 2)},
	} {
		wantPick(t, m, x.rows, x.want, api.OK)
	}
	r := rand.New(rand.NewSource(9))
	for rows := 1; rows <= 16; rows++ {
		for columns := 1; columns <= 16; columns++ {
			m := random(r, rows, columns)
			wantPick(t, m, upTo(rows), m, api.OK)
			wantPick(t, m, []int{rows - 1}, part(m, []int{rows - 1}, upTo(columns)), api.OK)
			order := r.Perm(rows)
			wantPick(t, m, order, part(m, order, upTo(columns)), api.OK)
			for n := 1; n <= 16; n++ {
				l := make([]int, n)
				for i := range l {
					l[i] = r.Intn(rows)
				}
				wantPick(t, m, l, part(m, l, upTo(columns)), api.OK)
			}
		}
	}
}

// P6.2: no indices, 16 and 17 indices, and indices that are not those of rows.
func TestPickOfNoRows(t *testing.T) {
	for rows := 1; rows <= 16; rows++ {
		m := zeros(rows, 2)
		wantPick(t, m, nil, api.Matrix{}, api.ErrRange)
		wantPick(t, m, []int{}, api.Matrix{}, api.ErrRange)
		wantPick(t, m, make([]int, 16), zeros(16, 2), api.OK)
		for _, n := range []int{17, 18, 32, 257} {
			wantPick(t, m, make([]int, n), api.Matrix{}, api.ErrRange)
		}
		for _, i := range []int{-1, -2, -16, rows, rows + 1, 2 * rows, 16, 17, 1 << 32, 1 << 62, math.MinInt, math.MinInt + 1, math.MaxInt - 1, math.MaxInt} {
			wantPick(t, m, []int{i}, api.Matrix{}, api.ErrRange)
			wantPick(t, m, []int{0, i}, api.Matrix{}, api.ErrRange)
			wantPick(t, m, []int{i, rows - 1}, api.Matrix{}, api.ErrRange)
			wantPick(t, m, append(make([]int, 15), i), api.Matrix{}, api.ErrRange)
		}
	}
}

// P6.2: the error of Check comes first.
func TestPickErrors(t *testing.T) {
	for _, x := range wrongs() {
		for _, rows := range [][]int{nil, {0}, {-1}, {0, 16}, make([]int, 16), make([]int, 17)} {
			wantPick(t, x.m, rows, api.Matrix{}, x.e)
		}
	}
}

// P6.3: the definition, for all sizes, and the chapter's example.
func TestCauchy(t *testing.T) {
	wantCauchy(t, 1, 2, of(2, 1, 9), api.OK)
	wantCauchy(t, 2, 2, of(2, 9, 14, 14, 9), api.OK)
	wantCauchy(t, 1, 1, of(1, 1), api.OK)
	wantCauchy(t, 2, 1, of(1, 9, 14), api.OK)
	wantCauchy(t, 1, 15, of(15, 1, 9, 14, 13, 11, 7, 6, 15, 2, 12, 5, 10, 4, 3, 8), api.OK)
	wantCauchy(t, 15, 1, of(1, 8, 3, 4, 10, 5, 12, 2, 15, 6, 7, 11, 13, 14, 9, 1), api.OK)
	for rows := 1; rows <= 15; rows++ {
		for columns := 1; columns <= 16-rows; columns++ {
			m := zeros(rows, columns)
			for i := range rows {
				for k := range columns {
					m.Cells[i*columns+k] = inverse(i ^ (rows + k))
				}
			}
			wantCauchy(t, rows, columns, m, api.OK)
		}
	}
}

// P6.3: too few or too many rows or columns, also where their sum is beyond the greatest int.
func TestCauchyErrors(t *testing.T) {
	for n := range 18 {
		wantCauchy(t, 0, n, api.Matrix{}, api.ErrRange)
		wantCauchy(t, n, 0, api.Matrix{}, api.ErrRange)
		wantCauchy(t, n, 17-n, api.Matrix{}, api.ErrRange)
		wantCauchy(t, n, 18-n, api.Matrix{}, api.ErrRange)
		wantCauchy(t, n, 16, api.Matrix{}, api.ErrRange)
		wantCauchy(t, 16, n, api.Matrix{}, api.ErrRange)
		for _, k := range noLengths() {
			wantCauchy(t, n, k, api.Matrix{}, api.ErrRange)
			wantCauchy(t, k, n, api.Matrix{}, api.ErrRange)
		}
	}
	for _, n := range noLengths() {
		for _, k := range noLengths() {
			wantCauchy(t, n, k, api.Matrix{}, api.ErrRange)
		}
	}
}

// The consequences: Product is associative.
func TestProductIsAssociative(t *testing.T) {
	r := rand.New(rand.NewSource(10))
	for n := range 400 {
		var size [4]int
		for i := range size {
			size[i] = 1 + (n+r.Intn(16))%16
		}
		a, b, c := random(r, size[0], size[1]), random(r, size[1], size[2]), random(r, size[2], size[3])
		ab, e := matrix.Product(a, b)
		bc, f := matrix.Product(b, c)
		left, g := matrix.Product(ab, c)
		if e != api.OK || f != api.OK || g != api.OK {
			t.Fatal(size, e, f, g)
		}
		wantProduct(t, a, bc, left, api.OK)
	}
}

// The consequences: every square part of a Cauchy matrix has an inverse. Of small ones all parts are looked at, of others some.
func TestSquarePartsOfCauchy(t *testing.T) {
	r := rand.New(rand.NewSource(11))
	for rows := 1; rows <= 15; rows++ {
		for columns := 1; columns <= 16-rows; columns++ {
			m := cauchy(t, rows, columns)
			for n := 1; n <= min(rows, columns); n++ {
				for range 10 {
					inverted(t, part(m, r.Perm(rows)[:n], r.Perm(columns)[:n]))
				}
				if rows > 4 || columns > 4 {
					continue
				}
				for _, i := range choices(rows, n) {
					for _, k := range choices(columns, n) {
						inverted(t, part(m, i, k))
					}
				}
			}
		}
	}
}

// The consequences: any n different rows of the identity with a Cauchy matrix below it have an inverse, and n of which two are the same have none.
func TestRowsOfIdentityAndCauchy(t *testing.T) {
	r := rand.New(rand.NewSource(12))
	for n := 1; n <= 15; n++ {
		for more := 1; more <= 16-n; more++ {
			all := api.Matrix{Rows: n + more, Columns: n, Cells: slices.Concat(one(n).Cells, cauchy(t, more, n).Cells)}
			for range 20 {
				rows := r.Perm(n + more)[:n]
				m, e := matrix.Pick(all, rows)
				if e != api.OK {
					t.Fatal(rows, e)
				}
				inverted(t, m)
				if n > 1 {
					rows[n-1] = rows[r.Intn(n-1)]
					m, _ = matrix.Pick(all, rows)
					wantInverse(t, m, api.Matrix{}, api.ErrRank)
				}
			}
		}
	}
}

// spare returns a matrix with elements in the spare capacity of its cells, and all that it has.
func spare(m api.Matrix) (api.Matrix, []int) {
	all := append(slices.Clone(m.Cells), upTo(300)...)
	return api.Matrix{Rows: m.Rows, Columns: m.Columns, Cells: all[:len(m.Cells)]}, all
}

// shares reports whether two lists share memory, also that of their spare capacity.
func shares(a, b []int) bool {
	if cap(a) == 0 || cap(b) == 0 {
		return false
	}
	const word = unsafe.Sizeof(0)
	x, y := uintptr(unsafe.Pointer(&a[:1][0])), uintptr(unsafe.Pointer(&b[:1][0]))
	return x < y+uintptr(cap(b))*word && y < x+uintptr(cap(a))*word
}

// R2: arguments stay as they are, also their spare capacity, and results share no memory with them.
func TestArgumentsStay(t *testing.T) {
	r := rand.New(rand.NewSource(13))
	for n := 1; n <= 16; n++ {
		for _, given := range []api.Matrix{one(n), regular(r, n), ofRank(r, n, n, n-1), turned(random(r, n, n)), random(r, n, n), zeros(n, n)} {
			m, all := spare(given)
			other, otherAll := spare(regular(r, n))
			rows := append(r.Perm(n), 5, 6, 7)
			before, otherBefore, rowsBefore := slices.Clone(all), slices.Clone(otherAll), slices.Clone(rows)
			p, _ := matrix.Product(m, other)
			q, _ := matrix.Product(other, m)
			x, _ := matrix.Inverse(m)
			picked, _ := matrix.Pick(m, rows[:n])
			matrix.Check(m)
			matrix.Rank(m)
			matrix.Same(m, other)
			for _, result := range []api.Matrix{p, q, x, picked} {
				if shares(result.Cells, all) || shares(result.Cells, otherAll) || shares(result.Cells, rows) {
					t.Errorf("a result of %v shares memory with an argument", given)
				}
				for i := range result.Cells {
					result.Cells[i] = 99
				}
			}
			if !slices.Equal(all, before) || !slices.Equal(otherAll, otherBefore) || !slices.Equal(rows, rowsBefore) {
				t.Fatalf("an argument has changed: %v", given)
			}
		}
	}
}

// R2: results are new with every call.
func TestResultsAreNew(t *testing.T) {
	for n := 1; n <= 15; n++ {
		a, _ := matrix.Identity(n)
		b, _ := matrix.Cauchy(n, 16-n)
		for _, l := range [][]int{a.Cells, b.Cells} {
			for i := range l {
				l[i] = 99
			}
		}
		wantIdentity(t, n, one(n), api.OK)
		c := cauchy(t, n, 16-n)
		if shares(b.Cells, c.Cells) || slices.Contains(c.Cells, 99) {
			t.Errorf("two Cauchy matrices of %d rows share memory", n)
		}
	}
}
