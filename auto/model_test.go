package auto_test

import (
	"cmp"
	"slices"

	"gerund/api"
	"gerund/trim"
)

// place is an item, and the symbol behind its place, if one stands there.
type place struct {
	item api.Item
	sym  int
	ok   bool
}

// placesOf are those of all items of a grammar, in order.
func placesOf(g api.Grammar) []place {
	var l []place
	add := func(rule int, right []int) {
		for dot, sym := range right {
			l = append(l, place{item: api.Item{Rule: rule, Dot: dot}, sym: sym, ok: true})
		}
		l = append(l, place{item: api.Item{Rule: rule, Dot: len(right)}})
	}
	add(-1, []int{-1 - g.Start})
	for i, r := range g.Rules {
		add(i, r.Right)
	}
	return l
}

// model is what is told of a grammar that may be.
type model struct {
	g      api.Grammar
	places []place
	begins [][]bool // of two nonterminals: does a tree of the one, at its left edge, have one of the other, or is it that one?
	states []api.State
	err    api.Errno
}

// modelOf tells it.
func modelOf(g api.Grammar) model {
	m := model{g: g, places: placesOf(g), begins: beginsOf(g)}
	if trim.Is(g) {
		m.states, m.err = m.automaton()
	} else {
		m.err = api.ErrArg
	}
	return m
}

// beginsOf closes what rules tell of the nonterminals with which they begin, by way of one after the other.
func beginsOf(g api.Grammar) [][]bool {
	l := make([][]bool, len(g.Nons))
	for n := range l {
		l[n] = make([]bool, len(g.Nons))
		l[n][n] = true
	}
	for _, r := range g.Rules {
		if len(r.Right) > 0 && r.Right[0] < 0 {
			l[r.Left][-1-r.Right[0]] = true
		}
	}
	for via := range l {
		for from := range l {
			for to := range l {
				l[from][to] = l[from][to] || l[from][via] && l[via][to]
			}
		}
	}
	return l
}

// closure goes through all items that there are, and leaves those that belong to the closure.
func (m model) closure(l []api.Item) []api.Item {
	asked := map[api.Item]bool{}
	for _, x := range l {
		asked[x] = true
	}
	wanted := make([]bool, len(m.g.Nons))
	for _, p := range m.places {
		if asked[p.item] && p.ok && p.sym < 0 {
			for n, begins := range m.begins[-1-p.sym] {
				wanted[n] = wanted[n] || begins
			}
		}
	}
	var all []api.Item
	for _, p := range m.places {
		x := p.item
		if asked[x] || x.Dot == 0 && x.Rule >= 0 && wanted[m.g.Rules[x.Rule].Left] {
			all = append(all, x)
		}
	}
	return all
}

// way is symbols, and for each place among them, from the one ahead of all to the one behind all, the nonterminals whose trees may begin there.
type way struct {
	syms  []int
	begun [][]bool
}

// holds: is an item one that a parser may stand in behind a way: do the symbols ahead of its place end the way, and may its rule begin ahead of these?
func (m model) holds(w way, x api.Item) bool {
	from := len(w.syms) - x.Dot
	if x.Rule == -1 {
		return from == 0 && (x.Dot == 0 || w.syms[0] == -1-m.g.Start)
	}
	r := m.g.Rules[x.Rule]
	return from >= 0 && slices.Equal(w.syms[from:], r.Right[:x.Dot]) && w.begun[from][r.Left]
}

// reached is a way of some symbols more, each behind those ahead.
func (m model) reached(w way, syms ...int) way {
	w = way{syms: slices.Concat(w.syms, syms), begun: slices.Clone(w.begun)}
	all := w.syms
	for n := len(w.begun); n <= len(all); n++ {
		w.syms, w.begun = all[:n], append(w.begun, make([]bool, len(m.g.Nons)))
		// Of rules without symbols ahead of their place it hangs on itself, so it is asked till nothing more comes.
		for grew := true; grew; {
			grew = false
			for _, p := range m.places {
				if p.ok && p.sym < 0 && !w.begun[n][-1-p.sym] && m.holds(w, p.item) {
					w.begun[n][-1-p.sym], grew = true, true
				}
			}
		}
	}
	return w
}

// kernel is that of the state behind a way; none, if there is no such way.
func (m model) kernel(w way) []api.Item {
	var l []api.Item
	for _, p := range m.places {
		if (p.item.Dot > 0 || p.item.Rule == -1) && m.holds(w, p.item) {
			l = append(l, p.item)
		}
	}
	return l
}

// symbols are those of a grammar, in the order of edges.
func (m model) symbols() []int {
	var l []int
	for sym := -len(m.g.Nons); sym < len(m.g.Terms); sym++ {
		l = append(l, sym)
	}
	slices.SortFunc(l, edgeOrder)
	return l
}

// edgeOrder is below 0, if an edge with the symbol a stands ahead of one with b, above 0 behind it, 0 of the same.
func edgeOrder(a, b int) int {
	if a < 0 || b < 0 {
		return cmp.Compare(b, a)
	}
	return cmp.Compare(a, b)
}

// automaton goes through the ways, the short ones first, of equally long ones in the order of edges; each that brings another kernel is a state, and just these are gone on with.
func (m model) automaton() ([]api.State, api.Errno) {
	ways := []way{m.reached(way{})}
	states := []api.State{{Kernel: m.kernel(ways[0])}}
	for n := 0; n < len(ways); n++ {
		for _, sym := range m.symbols() {
			longer := way{syms: append(slices.Clone(ways[n].syms), sym), begun: ways[n].begun}
			kernel := m.kernel(longer)
			if len(kernel) == 0 {
				continue
			}
			to := slices.IndexFunc(states, func(s api.State) bool { return slices.Equal(s.Kernel, kernel) })
			if to < 0 {
				to = len(states)
				states = append(states, api.State{Kernel: kernel})
				ways = append(ways, m.reached(ways[n], sym))
			}
			states[n].Edges = append(states[n].Edges, api.Edge{Sym: sym, To: to})
		}
		if len(states) > 300 {
			return nil, api.ErrMany
		}
	}
	return states, api.OK
}

// first is, of states, by number and symbol, where their edges lead, but for those that lead nowhere.
type first map[[2]int]int

// firstOf is that of states: what stands first is written last.
func firstOf(a []api.State) first {
	f := first{}
	for n, s := range a {
		for _, x := range slices.Backward(s.Edges) {
			f[[2]int{n, x.Sym}] = x.To
		}
	}
	for key, to := range f {
		if to < 0 || to >= len(a) {
			delete(f, key)
		}
	}
	return f
}

// walk is what Walk answers of so many states.
func (f first) walk(states, from int, syms []int) (int, bool) {
	if from < 0 || from >= states {
		return 0, false
	}
	if len(syms) == 0 {
		return from, true
	}
	to, ok := f[[2]int{from, syms[0]}]
	if !ok {
		return 0, false
	}
	return f.walk(states, to, syms[1:])
}
