package cycle

import (
	"slices"

	"gerund/api"
	"gerund/set"
	"gerund/trim"
)

// known is what is known of a grammar's nonterminals: the sets of those that are nullable, and productive.
type known struct {
	nullable, productive uint32
}

// knownOf is that of a grammar.
func knownOf(g api.Grammar) known {
	return known{nullable: those(trim.Nullable(g)), productive: those(trim.Productive(g))}
}

// to is the set of nonterminals to which a rule's Left comes at once by its Right.
func (k known) to(right []int) uint32 {
	if slices.ContainsFunc(right, k.neverEnds) {
		return 0
	}
	var s uint32
	for i, sym := range right {
		if isNon(sym) && k.areNullable(right[:i]) && k.areNullable(right[i+1:]) {
			s |= only(non(sym))
		}
	}
	return s
}

// neverEnds: is a symbol a nonterminal that isn't productive?
func (k known) neverEnds(sym int) bool {
	return isNon(sym) && !set.Has(k.productive, non(sym))
}

// areNullable: are all symbols nullable nonterminals?
func (k known) areNullable(syms []int) bool {
	for _, sym := range syms {
		if !isNon(sym) || !set.Has(k.nullable, non(sym)) {
			return false
		}
	}
	return true
}

// walks are the sets of nonterminals to which each one comes, by one step or several.
func walks(steps []uint32) []uint32 {
	to := slices.Clone(steps)
	// Each has those to which it comes by way of ones below via alone: at the end, of any.
	for via := range to {
		for n := range to {
			if set.Has(to[n], via) {
				to[n] |= to[via]
			}
		}
	}
	return to
}

// ofUse is the set of a grammar's nonterminals that are productive and reachable.
func ofUse(g api.Grammar) uint32 {
	return those(trim.Productive(g)) & those(trim.Reachable(g))
}

// those is the set of the numbers whose flag is true.
func those(flags []bool) uint32 {
	var s uint32
	for n, flag := range flags {
		if flag {
			s |= only(n)
		}
	}
	return s
}

// only is the set of one number.
func only(n int) uint32 {
	return set.Of([]int{n})
}

// isNon: is a symbol a nonterminal's?
func isNon(sym int) bool {
	return sym < 0
}

// non is the nonterminal of a symbol below 0.
func non(sym int) int {
	return -1 - sym
}
