package wire

import "testing"

// An iterator must not go on when its loop has ended.
func TestGroupsStop(t *testing.T) {
	for _, n := range []int{0, 1000000} {
		for range groups(n) {
			break
		}
	}
}
