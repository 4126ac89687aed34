package least

import (
	"slices"

	"gerund/api"
)

// known is what is known of a grammar's nonterminals: the height of each (0 of one that isn't productive), the least rule (-1), and the size of the least tree.
type known struct {
	rules          []api.Rule
	heights, least []int
	sizes          []size
}

// knownOf is that of a grammar that may be.
func knownOf(g api.Grammar) known {
	n := len(g.Nons)
	k := known{rules: g.Rules, heights: make([]int, n), least: slices.Repeat([]int{-1}, n), sizes: make([]size, n)}
	for _, p := range plansOf(g) {
		k.heights[p.non], k.least[p.non] = p.height, p.rule
		// The sizes that it needs are there: plans rise.
		k.sizes[p.non] = size{rules: 1}.and(k.sizeOf(k.right(p.non)))
	}
	return k
}

// neverEnds: is a symbol a nonterminal that isn't productive?
func (k known) neverEnds(sym int) bool {
	return isNon(sym) && k.heights[non(sym)] == 0
}

// right is the Right of a nonterminal's least rule.
func (k known) right(n int) []int {
	return k.rules[k.least[n]].Right
}

// A size is how many rules trees have, and how many terminals their sentence. What is too much stands there as one too many: else sums could be more than a number has.
type size struct {
	rules, terms int
}

// and is the size of both together.
func (s size) and(t size) size {
	return size{rules: min(s.rules+t.rules, api.MaxTree+1), terms: min(s.terms+t.terms, api.MaxWord+1)}
}

// sizeOf is that of symbols' least trees, and of their least sentence.
func (k known) sizeOf(syms []int) size {
	var s size
	for _, sym := range syms {
		if isNon(sym) {
			s = s.and(k.sizes[non(sym)])
		} else {
			s = s.and(size{terms: 1})
		}
	}
	return s
}

// writeTree writes a nonterminal's least tree behind rules: its least rule, and within that the trees of its nonterminals.
func (k known) writeTree(l []int, n int) []int {
	l = append(l, k.least[n])
	for _, sym := range k.right(n) {
		if isNon(sym) {
			l = k.writeTree(l, non(sym))
		}
	}
	return l
}

// writeWord writes the least sentence of symbols behind terminals, within it those of the nonterminals' least rules.
func (k known) writeWord(l, syms []int) []int {
	for _, sym := range syms {
		if isNon(sym) {
			l = k.writeWord(l, k.right(non(sym)))
		} else {
			l = append(l, sym)
		}
	}
	return l
}
