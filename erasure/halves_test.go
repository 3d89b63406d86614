package erasure

import "testing"

// Halves are those of the lower eight bits, whatever the type of a number is.
func TestHalves(t *testing.T) {
	for lower := range 16 {
		for upper := range 16 {
			n := 16*upper + lower
			if a, b := halves(n); a != lower || b != upper {
				t.Errorf("halves(%d) = %d, %d", n, a, b)
			}
			if a, b := halves(byte(n)); int(a) != lower || int(b) != upper {
				t.Errorf("halves(byte(%d)) = %d, %d", n, a, b)
			}
			if a, b := halves(int8(n)); int(a) != lower || int(b) != upper {
				t.Errorf("halves(int8(%d)) = %d, %d", n, a, b)
			}
			if a, b := halves(uint64(n)); int(a) != lower || int(b) != upper {
				t.Errorf("halves(uint64(%d)) = %d, %d", n, a, b)
			}
		}
	}
}
