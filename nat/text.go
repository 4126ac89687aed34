package nat

import (
	"slices"
	"strconv"
	"strings"

	"gerund/api"
)

// As many digits as a limb has room for, whatever they are, and the number that just doesn't have so few.
const (
	groupDigits = 9
	groupBound  = 1000000000
)

// Text: decimal digits.
func Text(x api.Nat) string {
	if !Right(x) {
		return ""
	}
	groups := groupsOf(x)
	if len(groups) == 0 {
		return "0"
	}
	last := len(groups) - 1
	var text strings.Builder
	text.WriteString(digits(groups[last]))
	for i := last - 1; i >= 0; i-- {
		group := digits(groups[i])
		text.WriteString(strings.Repeat("0", groupDigits-len(group)))
		text.WriteString(group)
	}
	return text.String()
}

// Parse: of decimal digits.
func Parse(s string) (api.Nat, api.Errno) {
	if !isDecimal(s) {
		return nil, api.ErrForm
	}
	var x api.Nat
	for len(s) > 0 {
		n := min(len(s), groupDigits)
		x = behind(x, s[:n])
		s = s[n:]
		// The digits still to come make it no less.
		if len(x) > api.MaxLimbs {
			return nil, api.ErrBig
		}
	}
	return x, api.OK
}

// groupsOf is x's digits in groups as numbers, the lowest one first.
func groupsOf(x api.Nat) []uint32 {
	rest := slices.Clone(x)
	var groups []uint32
	for len(rest) > 0 {
		groups = append(groups, divideBy(rest, groupBound))
		rest = trimmed(rest)
	}
	return groups
}

func digits(n uint32) string {
	return strconv.FormatUint(uint64(n), 10)
}

// isDecimal: is s digits, without noughts ahead?
func isDecimal(s string) bool {
	for i := range len(s) {
		if s[i] < '0' || s[i] > '9' {
			return false
		}
	}
	return len(s) == 1 || len(s) > 1 && s[0] != '0'
}

// behind is the number whose text is x's and s, a group's digits or fewer; x's memory is used.
func behind(x api.Nat, s string) api.Nat {
	var low, bound uint64 = 0, 1
	for i := range len(s) {
		low = low*10 + uint64(s[i]-'0')
		bound *= 10
	}
	carry := low
	for i, limb := range x {
		carry += uint64(limb) * bound
		x[i] = uint32(carry)
		carry >>= 32
	}
	if carry != 0 {
		x = append(x, uint32(carry))
	}
	return x
}
