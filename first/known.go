package first

import (
	"gerund/api"
	"gerund/set"
	"gerund/trim"
)

// known is what is known of a grammar's nonterminals: which are nullable, and FIRST of each.
type known struct {
	nullable []bool
	first    []uint32
}

// knownOf is that of a grammar that may be.
func knownOf(g api.Grammar) known {
	k := known{nullable: trim.Nullable(g), first: make([]uint32, len(g.Nons))}
	grow(k.first, g.Rules, func(r api.Rule, add func(n int, more uint32)) {
		// While FIRST grows, it has less than it must, never more: so does what is told by it.
		add(r.Left, k.of(r.Right, 0))
	})
	return k
}

// of is FIRST of symbols, all of which there are, and a rest.
func (k known) of(syms []int, rest uint32) uint32 {
	var s uint32
	for _, sym := range syms {
		s |= k.begins(sym)
		if !k.mayBeNothing(sym) {
			return s
		}
	}
	return s | rest
}

// begins is what a symbol begins with: a terminal with itself.
func (k known) begins(sym int) uint32 {
	if isNon(sym) {
		return k.first[non(sym)]
	}
	return only(sym)
}

// mayBeNothing: is a symbol a nullable nonterminal's?
func (k known) mayBeNothing(sym int) bool {
	return isNon(sym) && k.nullable[non(sym)]
}

// grow lets rules add more to nonterminals' sets, by what these have so far, till none adds any: so they are the least ones.
func grow(sets []uint32, rules []api.Rule, bring func(r api.Rule, add func(n int, more uint32))) {
	grew := true
	add := func(n int, more uint32) {
		grew = grew || more&^sets[n] != 0
		sets[n] |= more
	}
	for grew {
		grew = false
		for _, r := range rules {
			bring(r, add)
		}
	}
}

// only is the set of one number.
func only(n int) uint32 {
	return set.Of([]int{n})
}

// isNon: is a symbol a nonterminal's?
func isNon(sym int) bool {
	return sym < 0
}

// non is the nonterminal of a symbol below 0.
func non(sym int) int {
	return -1 - sym
}
