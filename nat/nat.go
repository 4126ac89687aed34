// Package nat is layer 1: natural numbers. See shared/doc/01-nat.md.
package nat

import (
	"cmp"
	"math/bits"

	"gerund/api"
)

// Right: may a number be?
func Right(x api.Nat) bool {
	n := len(x)
	return n == 0 || n <= api.MaxLimbs && x[n-1] != 0
}

// Of: a number.
func Of(n uint64) api.Nat {
	return trimmed(api.Nat{uint32(n), uint32(n >> 32)})
}

// Cmp: which is more?
func Cmp(a, b api.Nat) int {
	if !Right(a) || !Right(b) {
		return 0
	}
	if len(a) != len(b) {
		return cmp.Compare(len(a), len(b))
	}
	for i := len(a) - 1; i >= 0; i-- {
		if a[i] != b[i] {
			return cmp.Compare(a[i], b[i])
		}
	}
	return 0
}

// Add: a sum.
func Add(a, b api.Nat) (api.Nat, api.Errno) {
	if !Right(a) || !Right(b) {
		return nil, api.ErrArg
	}
	if len(a) < len(b) {
		a, b = b, a
	}
	sum := make(api.Nat, len(a)+1)
	copy(sum, a)
	addTo(sum, b)
	return fitting(sum)
}

// Sub: what is left.
func Sub(a, b api.Nat) (api.Nat, api.Errno) {
	if !Right(a) || !Right(b) {
		return nil, api.ErrArg
	}
	if Cmp(a, b) < 0 {
		return nil, api.ErrRange
	}
	left := make(api.Nat, len(a))
	copy(left, a)
	takeFrom(left, b, 1)
	return trimmed(left), api.OK
}

// Mul: a product.
func Mul(a, b api.Nat) (api.Nat, api.Errno) {
	if !Right(a) || !Right(b) {
		return nil, api.ErrArg
	}
	product := make(api.Nat, len(a)+len(b))
	for i, x := range a {
		var carry uint64
		for j, y := range b {
			// Two greatest limbs' product and two limbs more are just 64 bits.
			carry += uint64(x)*uint64(y) + uint64(product[i+j])
			product[i+j] = uint32(carry)
			carry >>= 32
		}
		product[i+len(b)] = uint32(carry)
	}
	return fitting(product)
}

// Bits: the highest one.
func Bits(x api.Nat) int {
	if !Right(x) || len(x) == 0 {
		return 0
	}
	last := len(x) - 1
	return 32*last + bits.Len32(x[last])
}

// addTo adds y, which is no longer than x, to x in its place, and tells whether a bit went over x's end.
func addTo(x, y []uint32) bool {
	var carry uint32
	for i := range x {
		var limb uint32
		if i < len(y) {
			limb = y[i]
		}
		x[i], carry = bits.Add32(x[i], limb, carry)
	}
	return carry != 0
}

// takeFrom takes y, which is no longer than x, so often from x in its place, and tells whether that was more than x.
func takeFrom(x, y []uint32, often uint32) bool {
	var carry uint64
	var borrow uint32
	for i := range x {
		if i < len(y) {
			carry += uint64(y[i]) * uint64(often)
		}
		x[i], borrow = bits.Sub32(x[i], uint32(carry), borrow)
		carry >>= 32
	}
	return carry != 0 || borrow != 0
}

// trimmed is x without noughts at its end.
func trimmed(x api.Nat) api.Nat {
	n := len(x)
	for n > 0 && x[n-1] == 0 {
		n--
	}
	if n == 0 {
		return nil
	}
	return x[:n]
}

// fitting is x without noughts at its end, if it may be then.
func fitting(x api.Nat) (api.Nat, api.Errno) {
	x = trimmed(x)
	if len(x) > api.MaxLimbs {
		return nil, api.ErrBig
	}
	return x, api.OK
}
