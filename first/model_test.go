package first_test

import (
	"slices"

	"gerund/api"
)

// model is what the calls answer of a grammar that may be; nonterminals stand in bits.
type model struct {
	nullable      int
	first, follow []uint32
}

// modelOf tells it terminal by terminal, by all sets of nonterminals.
func modelOf(g api.Grammar) model {
	n := len(g.Nons)
	m := model{nullable: nullableOf(g), first: make([]uint32, n), follow: make([]uint32, n)}
	for term := range g.Terms {
		put(m.first, term, least(n, m.firstClauses(g, term)))
	}
	for term := range len(g.Terms) + 1 {
		put(m.follow, term, least(n, m.followClauses(g, term)))
	}
	return m
}

// put gives a terminal to the lists' sets of some nonterminals.
func put(sets []uint32, term, nons int) {
	for i := range sets {
		sets[i] |= uint32(nons>>i&1) << term
	}
}

// clause is what a set of nonterminals keeps to: it has one of then, if it must, or if it has one of ifs.
type clause struct {
	must      bool
	ifs, then int
}

// least is what all sets of n nonterminals have in common that keep to all clauses: what follows from these, and no more.
func least(n int, clauses []clause) int {
	common := 1<<n - 1
next:
	for set := range 1 << n {
		for _, c := range clauses {
			if (c.must || set&c.ifs != 0) && set&c.then == 0 {
				continue next
			}
		}
		common &= set
	}
	return common
}

// nullableOf is what all sets have in common that have the Left of each rule all of whose symbols they have.
func nullableOf(g api.Grammar) int {
	common := 1<<len(g.Nons) - 1
next:
	for set := range 1 << len(g.Nons) {
		for _, r := range g.Rules {
			lacks := func(sym int) bool { return sym >= 0 || set&bit(sym) == 0 }
			if !slices.ContainsFunc(r.Right, lacks) && set>>r.Left&1 == 0 {
				continue next
			}
		}
		common &= set
	}
	return common
}

// bit is that of a nonterminal's symbol; of a terminal none.
func bit(sym int) int {
	if sym >= 0 {
		return 0
	}
	return 1 << (-1 - sym)
}

// bits are those of symbols.
func bits(syms []int) int {
	nons := 0
	for _, sym := range syms {
		nons |= bit(sym)
	}
	return nons
}

// heads are the symbols ahead of which all are nullable; and are all of them?
func (m model) heads(syms []int) ([]int, bool) {
	i := slices.IndexFunc(syms, func(sym int) bool { return bit(sym)&m.nullable == 0 })
	if i < 0 {
		return syms, true
	}
	return syms[:i+1], false
}

// firstClauses are those of a terminal in FIRST.
func (m model) firstClauses(g api.Grammar, term int) []clause {
	var l []clause
	for _, r := range g.Rules {
		heads, _ := m.heads(r.Right)
		l = append(l, clause{must: slices.Contains(heads, term), ifs: bits(heads), then: 1 << r.Left})
	}
	return l
}

// followClauses are those of a terminal, or of the end, in FOLLOW.
func (m model) followClauses(g api.Grammar, term int) []clause {
	l := []clause{{must: term == len(g.Terms), then: 1 << g.Start}}
	for _, r := range g.Rules {
		for i, sym := range r.Right {
			if sym >= 0 {
				continue
			}
			c := clause{must: m.of(r.Right[i+1:], 0)>>term&1 == 1, then: bit(sym)}
			if _, all := m.heads(r.Right[i+1:]); all {
				c.ifs = 1 << r.Left
			}
			l = append(l, c)
		}
	}
	return l
}

// of is FIRST of symbols, and a rest.
func (m model) of(syms []int, rest uint32) uint32 {
	heads, all := m.heads(syms)
	if !all {
		rest = 0
	}
	for _, sym := range heads {
		if sym >= 0 {
			rest |= 1 << sym
		} else {
			rest |= m.first[-1-sym]
		}
	}
	return rest
}
