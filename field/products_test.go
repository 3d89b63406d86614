package field

import (
	"testing"

	"storagebarter/api"
)

// answer is what a call answers.
type answer struct {
	n int
	e api.Errno
}

// answers returns what all functions answer for elements, and for numbers next to them.
func answers() []answer {
	var l []answer
	add := func(n int, e api.Errno) { l = append(l, answer{n, e}) }
	for a := -1; a <= size; a++ {
		add(Inverse(a))
		add(Log(a))
		for b := -2 * size; b <= 2*size; b++ {
			add(Add(a, b))
			add(Mul(a, b))
			add(Power(a, b))
		}
	}
	return l
}

// The init function fills the array of arrays with the products.
func TestProductsAreFilled(t *testing.T) {
	for a := range size {
		for b := range size {
			if p, e := Mul(a, b); int(products[a][b]) != p || e != api.OK {
				t.Errorf("products[%d][%d] is %d, Mul is %d, %d", a, b, products[a][b], p, e)
			}
		}
	}
}

// Results are those of the function: they stay the same whatever the array of arrays contains.
func TestResultsDoNotDependOnProducts(t *testing.T) {
	filled := products
	defer func() { products = filled }()
	want := answers()
	for _, x := range []byte{0, 1, size - 1, 255} {
		for a := range size {
			for b := range size {
				products[a][b] = x
			}
		}
		for i, got := range answers() {
			if got != want[i] {
				t.Fatalf("with products of %d, the answer %d is %v, want %v", x, i, got, want[i])
			}
		}
	}
}
