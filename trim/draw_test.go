package trim_test

import (
	"fmt"
	"reflect"
	"slices"
	"strings"

	"gerund/api"
)

// drawer is numbers that look like drawn ones.
type drawer uint64

// below is one of the numbers below n.
func (d *drawer) below(n int) int {
	*d = *d*6364136223846793005 + 1442695040888963407
	return int(*d>>33) % n
}

// order is the numbers below n, in any order.
func (d *drawer) order(n int) []int {
	l := make([]int, n)
	for i := range l {
		j := d.below(i + 1)
		l[i], l[j] = l[j], i
	}
	return l
}

// long is a name of so many bytes.
func long(n int) string {
	return strings.Repeat("x", n)
}

// numbered are texts with a number behind each, from 0 on.
func numbered(text string, n int) []string {
	var l []string
	for i := range n {
		l = append(l, fmt.Sprint(text, i))
	}
	return l
}

// termed are terminals without a level.
func termed(names ...string) []api.Term {
	var l []api.Term
	for _, s := range names {
		l = append(l, api.Term{Name: s})
	}
	return l
}

// grammar is one that may be: so many terminals, nonterminals, and rules, no fewer than nonterminals, each with at most so many symbols.
func (d *drawer) grammar(terms, nons, rules, most int) api.Grammar {
	g := api.Grammar{Terms: termed(numbered("T", terms)...), Nons: numbered("e", nons), Start: d.below(nons)}
	d.levels(g.Terms)
	came := 0
	for left := rules; left > 0; left-- {
		r := api.Rule{Left: d.below(min(came+1, nons))}
		if left == nons-came {
			r.Left = came
		}
		came = max(came, r.Left+1)
		d.right(&r, terms, nons, most)
		g.Rules = append(g.Rules, r)
	}
	return g
}

// levels gives some terminals levels, from 1 on, none of which is left out.
func (d *drawer) levels(l []api.Term) {
	greatest := d.below(len(l) + 1)
	ways := make([]int, greatest+1)
	for i := range greatest {
		ways[i+1] = 1 + d.below(3)
	}
	for i, at := range d.order(len(l)) {
		level := i + 1
		if level > greatest {
			level = d.below(greatest + 1)
		}
		l[at].Level, l[at].Assoc = level, ways[level]
	}
}

// right draws a rule's symbols, most often nonterminals, and its Prec.
func (d *drawer) right(r *api.Rule, terms, nons, most int) {
	for range d.below(most + 1) {
		sym := -1 - d.below(nons)
		if terms > 0 && d.below(4) == 0 {
			sym = d.below(terms)
		}
		r.Right = append(r.Right, sym)
	}
	r.Prec = lastOf(r.Right)
	if terms > 0 && d.below(4) == 0 {
		r.Prec = d.below(terms)
	}
}

// some is a grammar of at most so many nonterminals: with few rules or many, of few symbols or many.
func (d *drawer) some(most int) api.Grammar {
	nons := 1 + d.below(most)
	rules := nons + d.below(min(40-nons, 2*nons)+1)
	return d.grammar(d.below(5), nons, rules, 1+d.below(6))
}

// lastOf is the last terminal of symbols, or -1.
func lastOf(right []int) int {
	for _, sym := range slices.Backward(right) {
		if sym >= 0 {
			return sym
		}
	}
	return -1
}

// nameOf is a symbol's.
func nameOf(g api.Grammar, sym int) string {
	if sym < 0 {
		return g.Nons[-1-sym]
	}
	return g.Terms[sym].Name
}

// copied is the same grammar, that shares nothing with g; what holds nothing is nil.
func copied(g api.Grammar) api.Grammar {
	c := api.Grammar{Terms: append([]api.Term(nil), g.Terms...), Nons: append([]string(nil), g.Nons...), Start: g.Start}
	for _, r := range g.Rules {
		c.Rules = append(c.Rules, api.Rule{Left: r.Left, Right: append([]int(nil), r.Right...), Prec: r.Prec})
	}
	return c
}

// same: are they the same, field by field?
func same(a, b api.Grammar) bool {
	return reflect.DeepEqual(copied(a), copied(b))
}
