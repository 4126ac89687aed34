package look

import "gerund/api"

// A walk leads out of a state, by a symbol.
type walk struct {
	state, sym int
}

// An end is a rule that has come to its end in a state.
type end struct {
	state, rule int
}

// A walker has an automaton's walks. The rules of a nonterminal get their sets together, in each state in which they begin, and keep them all the way to their ends: so such a set stands by the walk out of that state by that nonterminal, and an end has those of all states from which one comes to it.
type walker struct {
	g     api.Grammar
	tails [][]tail
	to    map[walk]int
	sets  map[walk]uint32
	ends  map[end]uint32
}

// endsOf are the sets of all rules' ends in a reduced grammar's automaton.
func endsOf(g api.Grammar, a []api.State) map[end]uint32 {
	w := walker{g: g, tails: tailsOf(g), to: map[walk]int{}, sets: map[walk]uint32{}, ends: map[end]uint32{}}
	for state, s := range a {
		for _, x := range s.Edges {
			w.to[walk{state, x.Sym}] = x.To
		}
	}
	w.grow()
	return w.ends
}

// grow gives the start's rules the end, and goes on from what has got more, till nothing has: so the sets are the least ones.
func (w walker) grow() {
	var grown []walk
	visit := func(x walk, more uint32) {
		// A reduced grammar's nonterminals are all productive, so what is given is never empty: each walk is gone through at least once.
		if more&^w.sets[x] != 0 {
			w.sets[x] |= more
			grown = append(grown, x)
		}
	}
	visit(walk{0, non(w.g.Start)}, only(len(w.g.Terms)))
	for len(grown) > 0 {
		last := len(grown) - 1
		x := grown[last]
		grown = grown[:last]
		w.pass(x, visit)
	}
}

// pass goes through the rules of a walk's nonterminal, from its state to their ends.
func (w walker) pass(x walk, visit func(walk, uint32)) {
	set := w.sets[x]
	for rule, r := range w.g.Rules {
		if r.Left != non(x.sym) {
			continue
		}
		at := x.state
		for dot, sym := range r.Right {
			if isNon(sym) {
				visit(walk{at, sym}, w.tails[rule][dot].of(set))
			}
			at = w.to[walk{at, sym}]
		}
		w.ends[end{at, rule}] |= set
	}
}

// isNon: is a symbol a nonterminal's?
func isNon(sym int) bool {
	return sym < 0
}

// non is the nonterminal of a symbol below 0, and a nonterminal's symbol.
func non(n int) int {
	return -1 - n
}
