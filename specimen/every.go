package specimen

import (
	"iter"

	"gerund/api"
)

// Count goes on to the next digits below a base; is there one?
func Count(digits []int, base int) bool {
	for i := range digits {
		if digits[i]++; digits[i] < base {
			return true
		}
		digits[i] = 0
	}
	return false
}

// Every is all grammars of so many terminals, two nonterminals, and three rules of at most two symbols, with each start; some of them may not be.
func Every(terms int) iter.Seq[api.Grammar] {
	return func(yield func(api.Grammar) bool) {
		rules, at := everyRule(terms), make([]int, 3)
		for more := true; more; more = Count(at, len(rules)) {
			for start := range 2 {
				g := api.Grammar{Terms: Termed(Numbered("T", terms)...), Nons: Numbered("e", 2), Start: start}
				for _, n := range at {
					g.Rules = append(g.Rules, rules[n])
				}
				if !yield(g) {
					return
				}
			}
		}
	}
}

// everyRule is all rules of two nonterminals, so many terminals, and at most two symbols.
func everyRule(terms int) []api.Rule {
	rights := [][]int{nil}
	for a := -2; a < terms; a++ {
		rights = append(rights, []int{a})
		for b := -2; b < terms; b++ {
			rights = append(rights, []int{a, b})
		}
	}
	var l []api.Rule
	for _, right := range rights {
		for left := range 2 {
			l = append(l, Rule(left, right...))
		}
	}
	return l
}
