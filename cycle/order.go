package cycle

import "gerund/set"

// ordered are the nonterminals of use, each behind those to which it comes at once; none of them comes to itself.
func ordered(steps []uint32, use uint32) []int {
	l := make([]int, 0, set.Count(use))
	var there uint32
	for {
		n := set.Least(ready(steps, use&^there, there))
		if n < 0 {
			return l
		}
		l, there = append(l, n), there|only(n)
	}
}

// ready are those that are left and come at once to none but those that are there.
func ready(steps []uint32, left, there uint32) uint32 {
	var s uint32
	for _, n := range set.Members(left) {
		if steps[n]&^there == 0 {
			s |= only(n)
		}
	}
	return s
}
