// Package wire writes numbers, texts and lists as bytes, and reads them back.
package wire

import (
	"iter"
	"strings"

	"storagebarter/api"
)

// A byte holds a group of bits of a number, and says whether another one follows.
const (
	groupBits = 7
	follows   = 1 << groupBits
)

// The last byte that a number of 64 bits can have, and what it holds at most.
const (
	lastByte = 9
	lastMost = 1
)

// PutInt returns s with the bytes of n behind it.
func PutInt(s string, n int) string {
	return s + string(appendInt(nil, n))
}

// Int returns the number that begins at an index, and the index behind it.
func Int(s string, at int) (int, int, api.Errno) {
	if at < 0 || at > len(s) {
		return 0, 0, api.ErrRange
	}
	u := uint64(0)
	for i := 0; ; i++ { // lastByte is rejected, or is the end
		if at == len(s) {
			return 0, 0, api.ErrShort
		}
		b := s[at]
		at++
		if i == lastByte && b > lastMost {
			return 0, 0, api.ErrForm
		}
		u |= uint64(b%follows) << (groupBits * i)
		if b < follows {
			if b == 0 && i > 0 { // the same number has fewer groups
				return 0, 0, api.ErrForm
			}
			return unfold(u), at, api.OK
		}
	}
}

// PutText returns s with the length of t and t behind it.
func PutText(s, t string) string {
	return s + string(appendInt(nil, len(t))) + t
}

// Text returns the text of at most most bytes that begins at an index, and the index behind it.
func Text(s string, at, most int) (string, int, api.Errno) {
	n, at, e := length(s, at, most)
	if e != api.OK {
		return "", 0, e
	}
	if n > len(s)-at { // at+n might overflow
		return "", 0, api.ErrShort
	}
	return strings.Clone(s[at : at+n]), at + n, api.OK // a part of s would keep all of it
}

// PutList returns s with the length of l and its elements behind it.
func PutList(s string, l []int) string {
	b := appendInt(nil, len(l))
	for _, n := range l {
		b = appendInt(b, n)
	}
	return s + string(b)
}

// List returns the list of at most most numbers that begins at an index, and the index behind it.
func List(s string, at, most int) ([]int, int, api.Errno) {
	left, at, e := length(s, at, most)
	if e != api.OK {
		return nil, 0, e
	}
	var l []int // grows with what is there: the length may be far greater
	for ; left > 0; left-- {
		n, next, e := Int(s, at)
		if e != api.OK {
			return nil, 0, e
		}
		l = append(l, n)
		at = next
	}
	return l, at, api.OK
}

// length reads how many bytes or elements follow.
func length(s string, at, most int) (int, int, api.Errno) {
	n, at, e := Int(s, at)
	switch {
	case e != api.OK:
		return 0, 0, e
	case n < 0:
		return 0, 0, api.ErrForm
	case n > most:
		return 0, 0, api.ErrLimit
	}
	return n, at, api.OK
}

func appendInt(b []byte, n int) []byte {
	for g := range groups(n) {
		b = append(b, g)
	}
	return b
}

// groups hands out the bytes of a number.
func groups(n int) iter.Seq[byte] {
	return func(yield func(byte) bool) {
		u := fold(n)
		for ; u >= follows; u >>= groupBits {
			if !yield(byte(u) | follows) {
				return
			}
		}
		yield(byte(u))
	}
}

// fold maps numbers near 0, of either sign, to small ones: 2n, or -2n-1 if n is negative.
func fold(n int) uint64 {
	u := uint64(n) << 1
	if n < 0 {
		return ^u // -u-1, also where u has wrapped around
	}
	return u
}

// unfold is the inverse of fold.
func unfold(u uint64) int {
	if u%2 == 1 {
		return int(^(u >> 1))
	}
	return int(u >> 1)
}
