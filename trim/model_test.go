package trim_test

import (
	"reflect"

	"gerund/api"
	"gerund/cfg"
	"gerund/specimen"
)

// model is what the calls answer of a grammar that may be.
type model struct {
	nullable, productive, reachable []bool
	reduced                         api.Grammar
	kept                            []int
	err                             api.Errno
	is                              bool
}

// bits of a rule: its Left, the nonterminals in its Right, and has it a terminal?
type bits struct {
	left, nons int
	term       bool
}

// bitsOf are those of a grammar's rules.
func bitsOf(g api.Grammar) []bits {
	var l []bits
	for _, r := range g.Rules {
		b := bits{left: 1 << r.Left}
		for _, sym := range r.Right {
			if sym < 0 {
				b.nons |= 1 << (-1 - sym)
			} else {
				b.term = true
			}
		}
		l = append(l, b)
	}
	return l
}

// least is what all sets of n numbers have in common with which all rules are content: what follows from the rules, and no more.
func least(n int, rules []bits, content func(set int, b bits) bool) int {
	common := 1<<n - 1
next:
	for set := range 1 << n {
		for _, b := range rules {
			if !content(set, b) {
				continue next
			}
		}
		common &= set
	}
	return common
}

// within: has the set all of the part?
func within(part, set int) bool {
	return part&^set == 0
}

// modelOf tells it by all sets of nonterminals; the grammar, reduced, is that of a source that has its rules alone.
func modelOf(g api.Grammar) model {
	n, rules := len(g.Nons), bitsOf(g)
	nullable := least(n, rules, func(set int, b bits) bool { return b.term || !within(b.nons, set) || within(b.left, set) })
	productive := least(n, rules, func(set int, b bits) bool { return !within(b.nons, set) || within(b.left, set) })
	start := bits{left: 0, nons: 1 << g.Start}
	reachable := least(n, append([]bits{start}, rules...), func(set int, b bits) bool {
		if b == start {
			return within(b.nons, set)
		}
		return !within(b.nons, productive) || !within(b.left, set) || within(b.nons, set)
	})
	m := model{nullable: listOf(n, nullable), productive: listOf(n, productive), reachable: listOf(n, reachable)}
	if !m.productive[g.Start] {
		m.err = api.ErrEmpty
		return m
	}
	for i, b := range rules {
		if within(b.left, reachable) && within(b.nons, productive) {
			m.kept = append(m.kept, i)
		}
	}
	m.reduced = builtOf(g, m.kept)
	m.is = same(m.reduced, g)
	return m
}

// listOf is a set as a list.
func listOf(n, set int) []bool {
	l := make([]bool, n)
	for i := range l {
		l[i] = set>>i&1 == 1
	}
	return l
}

// builtOf is the grammar of a source that has all terminals of g, in order, with their levels, and some of its rules.
func builtOf(g api.Grammar, kept []int) api.Grammar {
	ref := func(text string) api.Ref { return api.Ref{Text: text} }
	var s api.Source
	for _, x := range g.Terms {
		s.Decls = append(s.Decls, api.Decl{Kind: api.TokToken, Names: []api.Ref{ref(x.Name)}})
	}
	for level := 1; level <= len(g.Terms); level++ {
		var d api.Decl
		for _, x := range g.Terms {
			if x.Level == level {
				d.Kind, d.Names = api.TokLeft+x.Assoc-api.AssocLeft, append(d.Names, ref(x.Name))
			}
		}
		if d.Kind > 0 {
			s.Decls = append(s.Decls, d)
		}
	}
	s.Decls = append(s.Decls, api.Decl{Kind: api.TokStart, Names: []api.Ref{ref(g.Nons[g.Start])}})
	for _, i := range kept {
		r := g.Rules[i]
		p := api.Prod{Left: ref(g.Nons[r.Left])}
		for _, sym := range r.Right {
			p.Right = append(p.Right, ref(specimen.NameOf(g, sym)))
		}
		if r.Prec >= 0 {
			p.Prec = ref(specimen.NameOf(g, r.Prec))
		}
		s.Prods = append(s.Prods, p)
	}
	built, at, e := cfg.Build(s)
	if e != api.OK {
		panic([]any{s, at, e})
	}
	return built
}

// same: are they the same, field by field?
func same(a, b api.Grammar) bool {
	return reflect.DeepEqual(specimen.Copied(a), specimen.Copied(b))
}
