package nat

import (
	"math/bits"
	"slices"

	"gerund/api"
)

// Div: by a small one.
func Div(x api.Nat, d uint32) (api.Nat, uint32, api.Errno) {
	if !Right(x) || d == 0 {
		return nil, 0, api.ErrArg
	}
	often := slices.Clone(x)
	left := divideBy(often, d)
	return trimmed(often), left, api.OK
}

// Quo: by any other one.
func Quo(a, b api.Nat) (api.Nat, api.Nat, api.Errno) {
	if !Right(a) || !Right(b) || len(b) == 0 {
		return nil, nil, api.ErrArg
	}
	if Cmp(a, b) < 0 {
		return nil, slices.Clone(a), api.OK
	}
	often, left := divide(a, b)
	return often, left, api.OK
}

// divideBy puts into x how often d, which isn't 0, goes into it, and tells what is left.
func divideBy(x []uint32, d uint32) uint32 {
	var left uint32
	for i := len(x) - 1; i >= 0; i-- {
		// What is left is below d, so that Div32 has room for what it tells.
		x[i], left = bits.Div32(left, x[i], d)
	}
	return left
}

// divide is long division of a by b, which isn't more than a: how often, and what is left.
func divide(a, b api.Nat) (api.Nat, api.Nat) {
	// A guess by the highest limbs is at most two too great if b's highest bit is 1: so both are shifted.
	shift := bits.LeadingZeros32(b[len(b)-1])
	by := shifted(b, shift)[:len(b)]
	left := shifted(a, shift)
	often := make(api.Nat, len(a)-len(b)+1)
	for at := len(often) - 1; at >= 0; at-- {
		part := left[at : at+len(by)+1]
		often[at] = guess(part, by[len(by)-1])
		for less := takeFrom(part, by, often[at]); less; less = !addTo(part, by) {
			often[at]--
		}
	}
	shiftBack(left, shift)
	return trimmed(often), trimmed(left)
}

// guess is at least how often limbs whose highest one is top go into part, which has a limb more.
func guess(part []uint32, top uint32) uint32 {
	last := len(part) - 1
	if part[last] >= top {
		return 1<<32 - 1
	}
	often, _ := bits.Div32(part[last], part[last-1], top)
	return often
}

// shifted is x by shift bits (below 32) higher, with a limb more.
func shifted(x []uint32, shift int) []uint32 {
	higher := make([]uint32, len(x)+1)
	var carry uint64
	for i, limb := range x {
		carry |= uint64(limb) << shift
		higher[i] = uint32(carry)
		carry >>= 32
	}
	higher[len(x)] = uint32(carry)
	return higher
}

// shiftBack puts x by shift bits (below 32) lower, in its place.
func shiftBack(x []uint32, shift int) {
	var above uint64
	for i := len(x) - 1; i >= 0; i-- {
		above = above<<32 | uint64(x[i])
		x[i] = uint32(above >> shift)
	}
}
