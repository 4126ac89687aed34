package table_test

import (
	"slices"
	"strings"
	"testing"

	"gerund/api"
	"gerund/cfg"
	"gerund/least"
	"gerund/specimen"
	"gerund/trim"
)

// A parser goes by a table; it has the states, and the symbols, that stand on one another.
type parser struct {
	g      api.Grammar
	u      api.Table
	states []int
	syms   []int
}

// put puts a symbol above, and the state behind it.
func (p *parser) put(sym, state int) {
	p.syms, p.states = append(p.syms, sym), append(p.states, state)
}

// reduce puts a rule's Left in the place of its Right; what stands above must be that, and there must be a state behind it.
func (p *parser) reduce(t *testing.T, rule int) {
	t.Helper()
	r := p.g.Rules[rule]
	at := len(p.syms) - len(r.Right)
	if at < 0 || !slices.Equal(p.syms[at:], r.Right) {
		t.Fatalf("%v: %v: rule %d behind %v", p.g, p.u, rule, p.syms)
	}
	p.syms, p.states = p.syms[:at], p.states[:at+1]
	to := p.u.Gotos[p.states[at]][r.Left]
	if to == -1 {
		t.Fatalf("%v: %v: no state behind %v, rule %d", p.g, p.u, p.syms, rule)
	}
	p.put(-1-r.Left, to)
}

// parse is what a table tells of terminals: the rules that are reduced, and whether they are accepted, in at most so many moves.
func parse(t *testing.T, g api.Grammar, u api.Table, word []int, most int) ([]int, bool) {
	t.Helper()
	p, rules, at := parser{g: g, u: u, states: []int{0}}, []int(nil), 0
	for range most {
		next := len(g.Terms)
		if at < len(word) {
			next = word[at]
		}
		switch x := u.Actions[p.states[len(p.states)-1]][next]; x.Kind {
		case api.ActShift:
			p.put(next, x.N)
			at++
		case api.ActReduce:
			p.reduce(t, x.N)
			rules = append(rules, x.N)
		case api.ActAccept:
			if at < len(word) || !slices.Equal(p.syms, []int{-1 - g.Start}) {
				t.Fatalf("%v: %v: accepted behind %v", g, u, p.syms)
			}
			return rules, true
		default:
			return nil, false
		}
	}
	return nil, false
}

// halves are what the moves of a parse have: the terminals, and the rules.
func halves(moves []specimen.Move) ([]int, []int) {
	var word, rules []int
	for _, x := range moves {
		if x.Reduce {
			rules = append(rules, x.N)
		} else {
			word = append(word, x.N)
		}
	}
	return word, rules
}

// marked is a grammar, each of whose rules with symbols has a terminal of its own ahead, as far as there are terminals.
func marked(d *specimen.Drawer) api.Grammar {
	nons := 1 + d.Below(6)
	g := d.Thin(d.Grammar(1+d.Below(24), nons, nons+d.Below(2*nons), 1+d.Below(4)))
	for i, at := range d.Order(len(g.Rules)) {
		if r := g.Rules[at]; i < len(g.Terms) && len(r.Right) > 0 {
			r.Right[0] = i
			g.Rules[at] = specimen.Rule(r.Left, r.Right...)
		}
	}
	if h, _, e := trim.Reduce(g); e == api.OK {
		return h
	}
	return g
}

// P17.2: without conflicts a table follows drawn trees: it reduces just their rules, and accepts.
func TestParsed(t *testing.T) {
	d, parsed := specimen.Drawer(175), 0
	l := specimen.Varied(176, 2000)
	for range 1000 {
		l = append(l, marked(&d))
	}
	for _, g := range l {
		m := modelOf(g)
		u, c := isBuilt(t, m)
		if _, e := least.Tree(g, g.Start); m.err != api.OK || len(c) > 0 || e != api.OK {
			continue
		}
		for range 5 {
			moves := d.Moves(g, g.Start, 40)
			word, want := halves(moves)
			if rules, ok := parse(t, g, u, word, len(moves)+1); !ok || !slices.Equal(rules, want) {
				t.Fatalf("%v: %v: %v: %v %v, not %v", g, u, word, rules, ok, want)
			}
			parsed++
		}
	}
	if parsed < 3000 {
		t.Error(parsed)
	}
}

// sentences are those of each nonterminal, of at most so many terminals, as texts of their numbers.
func sentences(g api.Grammar, most int) []map[string]bool {
	l := make([]map[string]bool, len(g.Nons))
	for n := range l {
		l[n] = map[string]bool{}
	}
	for grew := true; grew; {
		grew = false
		for _, r := range g.Rules {
			texts := map[string]bool{"": true}
			for _, sym := range r.Right {
				ends := map[string]bool{string(rune('0' + sym)): true}
				if sym < 0 {
					ends = l[-1-sym]
				}
				longer := map[string]bool{}
				for a := range texts {
					for b := range ends {
						if len(a)+len(b) <= most {
							longer[a+b] = true
						}
					}
				}
				texts = longer
			}
			for text := range texts {
				grew = grew || !l[r.Left][text]
				l[r.Left][text] = true
			}
		}
	}
	return l
}

// words are all of so many kinds of terminals, of at most so many.
func words(terms, most int) [][]int {
	l := [][]int{nil}
	for at := 0; at < len(l); at++ {
		if len(l[at]) < most {
			for term := range terms {
				l = append(l, append(slices.Clone(l[at]), term))
			}
		}
	}
	return l
}

// P17.1, P17.2: all grammars of two nonterminals, two terminals, and three rules of at most two symbols, against the model; what is accepted is a sentence, and without conflicts each sentence is accepted.
func TestAllSmall(t *testing.T) {
	built, single, all := 0, 0, words(2, 4)
	for g := range specimen.Every(2) {
		if !cfg.Right(g) {
			continue
		}
		m := modelOf(g)
		u, c := isBuilt(t, m)
		if m.err != api.OK {
			continue
		}
		said := sentences(g, 4)[g.Start]
		for _, word := range all {
			var text strings.Builder
			for _, term := range word {
				text.WriteByte(byte('0' + term))
			}
			if _, ok := parse(t, g, u, word, 60); ok && !said[text.String()] || !ok && said[text.String()] && len(c) == 0 {
				t.Fatalf("%v: %v %v: %v: %v", g, u, c, word, ok)
			}
		}
		if built++; len(c) == 0 {
			single++
		}
	}
	if built < 10000 || single < 3000 {
		t.Error(built, single)
	}
}
