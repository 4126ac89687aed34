// Package specimen is grammars to test with: drawn ones, such as have many states, and such as may not be, or aren't reduced; tables of any size; and what tells whether lists stayed as they were. The tests of the layers above cfg share it; no layer calls it.
package specimen

import (
	"slices"

	"gerund/api"
	"gerund/trim"
)

// Drawer is numbers that look like drawn ones.
type Drawer uint64

// Below is one of the numbers below n.
func (d *Drawer) Below(n int) int {
	*d = *d*6364136223846793005 + 1442695040888963407
	return int(*d>>33) % n
}

// Order is the numbers below n, in any order.
func (d *Drawer) Order(n int) []int {
	l := make([]int, n)
	for i := range l {
		j := d.Below(i + 1)
		l[i], l[j] = l[j], i
	}
	return l
}

// Grammar is one that may be: so many terminals, nonterminals, and rules, no fewer than nonterminals, each with at most so many symbols.
func (d *Drawer) Grammar(terms, nons, rules, most int) api.Grammar {
	g := api.Grammar{Nons: Numbered("e", nons), Start: d.Below(nons)}
	g.Terms = d.Levelled(Termed(Numbered("T", terms)...))
	came := 0
	for left := rules; left > 0; left-- {
		r := api.Rule{Left: d.Below(min(came+1, nons))}
		if left == nons-came {
			r.Left = came
		}
		came = max(came, r.Left+1)
		r.Right = d.right(terms, nons, most)
		r.Prec = LastOf(r.Right)
		if terms > 0 && d.Below(4) == 0 {
			r.Prec = d.Below(terms)
		}
		g.Rules = append(g.Rules, r)
	}
	return g
}

// Levelled are terminals of which some have levels, from 1 on, none of which is left out.
func (d *Drawer) Levelled(terms []api.Term) []api.Term {
	l := slices.Clone(terms)
	greatest := d.Below(len(l) + 1)
	ways := make([]int, greatest+1)
	for i := range greatest {
		ways[i+1] = 1 + d.Below(3)
	}
	for i, at := range d.Order(len(l)) {
		level := i + 1
		if level > greatest {
			level = d.Below(greatest + 1)
		}
		l[at].Level, l[at].Assoc = level, ways[level]
	}
	return l
}

// right is a rule's symbols, most often nonterminals.
func (d *Drawer) right(terms, nons, most int) []int {
	var l []int
	for range d.Below(most + 1) {
		sym := -1 - d.Below(nons)
		if terms > 0 && d.Below(4) == 0 {
			sym = d.Below(terms)
		}
		l = append(l, sym)
	}
	return l
}

// Some is a grammar of at most so many nonterminals: with few rules or many, of few symbols or many.
func (d *Drawer) Some(most int) api.Grammar {
	nons := 1 + d.Below(most)
	rules := nons + d.Below(min(40-nons, 2*nons)+1)
	return d.Grammar(d.Below(5), nons, rules, 1+d.Below(6))
}

// Thin is a grammar that may be, with terminal 0 in the place of some nonterminals, if there is such a terminal; each rule has the precedence that its symbols give it.
func (d *Drawer) Thin(g api.Grammar) api.Grammar {
	g = Copied(g)
	for i, r := range g.Rules {
		for at, sym := range r.Right {
			if sym < 0 && len(g.Terms) > 0 && d.Below(2) == 0 {
				r.Right[at] = 0
			}
		}
		g.Rules[i] = Rule(r.Left, r.Right...)
	}
	return g
}

// Mixed are grammars of up to 16 nonterminals, most of them reduced: some with more terminals, some of up to 40 rules, some of many states.
func Mixed(seed, n int) []api.Grammar {
	d := Drawer(seed)
	var l []api.Grammar
	for i := range n {
		var g api.Grammar
		switch i % 5 {
		case 0:
			g = d.Some(16)
		case 1:
			g = d.Thin(d.Some(6))
		case 2:
			g = d.Thin(d.Some(16))
		case 3:
			nons := 1 + d.Below(16)
			g = d.Thin(d.Grammar(2+d.Below(3), nons, 40-d.Below(41-nons), 4+d.Below(3)))
		case 4:
			g = d.Bent()
		}
		if h, _, e := trim.Reduce(g); e == api.OK && i%11 > 0 {
			g = h
		}
		l = append(l, g)
	}
	return l
}

// Varied are mixed grammars, and as many of up to 8 nonterminals and up to 24 terminals, most of them reduced.
func Varied(seed, n int) []api.Grammar {
	d, l := Drawer(seed), Mixed(seed, n/2)
	for range n / 2 {
		nons := 1 + d.Below(8)
		g := d.Thin(d.Grammar(1+d.Below(24), nons, nons+d.Below(4*nons), 1+d.Below(4)))
		if h, _, e := trim.Reduce(g); e == api.OK {
			g = h
		}
		l = append(l, g)
	}
	return l
}

// Rising are the numbers below n.
func Rising(n int) []int {
	l := make([]int, n)
	for i := range l {
		l[i] = i
	}
	return l
}

// Orders are those in which n things may stand: rising, falling, and some others.
func Orders(n int) [][]int {
	falling := Rising(n)
	slices.Reverse(falling)
	l := [][]int{Rising(n), falling}
	d := Drawer(n)
	for range 6 {
		l = append(l, d.Order(n))
	}
	return l
}
