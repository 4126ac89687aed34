package auto

import (
	"slices"

	"gerund/api"
)

// A builder has the states that a reduced grammar's automaton has so far, and the number of each by its kernel's text.
type builder struct {
	g       api.Grammar
	states  []api.State
	numbers map[string]int
}

// number is that of the state with a kernel; if there is none yet, it becomes the next one.
func (b *builder) number(kernel []api.Item) int {
	text := textOf(kernel)
	n, known := b.numbers[text]
	if !known {
		n = len(b.states)
		b.numbers[text], b.states = n, append(b.states, api.State{Kernel: kernel})
	}
	return n
}

// edges are those of a state, by its kernel.
func (b *builder) edges(kernel []api.Item) []api.Edge {
	moved := map[int][]api.Item{}
	for _, x := range closure(b.g, kernel) {
		if sym, ok := next(b.g, x); ok {
			// They stay in order: each goes on by one.
			moved[sym] = append(moved[sym], api.Item{Rule: x.Rule, Dot: x.Dot + 1})
		}
	}
	var l []api.Edge
	for _, sym := range symbols(b.g) {
		if items, ok := moved[sym]; ok {
			l = append(l, api.Edge{Sym: sym, To: b.number(items)})
		}
	}
	return l
}

// symbols are those of a grammar, in the order in which edges stand.
func symbols(g api.Grammar) []int {
	var l []int
	for term := range g.Terms {
		l = append(l, term)
	}
	for n := range g.Nons {
		l = append(l, non(n))
	}
	return l
}

// textOf is a kernel as a text, for a list is no key: of each item two bytes, both of which are small.
func textOf(kernel []api.Item) string {
	var b []byte
	for _, x := range kernel {
		b = append(b, byte(x.Rule-startRule), byte(x.Dot))
	}
	return string(b)
}

// isState: have states one of that number?
func isState(a []api.State, n int) bool {
	return n >= 0 && n < len(a)
}

// step is the state behind a state's first edge with a symbol; false, if one of these isn't there.
func step(a []api.State, from, sym int) (int, bool) {
	i := slices.IndexFunc(a[from].Edges, func(x api.Edge) bool { return x.Sym == sym })
	if i < 0 {
		return 0, false
	}
	to := a[from].Edges[i].To
	return to, isState(a, to)
}
