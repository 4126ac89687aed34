package cycle_test

import (
	"slices"
	"testing"

	"gerund/api"
	"gerund/cfg"
	"gerund/specimen"
)

// graph is a grammar of nonterminals each of which comes at once to those that are told, by rules of one symbol, and has a rule with a terminal: ahead of these all, or behind them.
func graph(steps []uint32, start int, behind bool) api.Grammar {
	g := api.Grammar{Terms: specimen.Termed("T"), Nons: specimen.Numbered("e", len(steps)), Start: start}
	ends := func() {
		for n := range steps {
			g.Rules = append(g.Rules, specimen.Rule(n, 0))
		}
	}
	if !behind {
		ends()
	}
	for n, s := range steps {
		for to := range steps {
			if s>>to&1 == 1 {
				g.Rules = append(g.Rules, specimen.Rule(n, -1-to))
			}
		}
		if behind {
			g.Rules = append(g.Rules, specimen.Rule(n, 0))
		}
	}
	return g
}

// P13.1, P13.2: all ways in which up to three nonterminals come to one another, and four that don't come to themselves at once.
func TestGraphs(t *testing.T) {
	for n := 1; n <= 4; n++ {
		each := n
		if n == 4 {
			each = n - 1
		}
		digits := make([]int, n)
		for more := true; more; more = specimen.Count(digits, 1<<each) {
			steps := make([]uint32, n)
			for i, d := range digits {
				steps[i] = uint32(d)
				if each < n {
					// The bit of the nonterminal itself stands there as 0.
					steps[i] = uint32(d&(1<<i-1) | d>>i<<(i+1))
				}
			}
			for start := range n {
				g := graph(steps, start, start%2 == 1)
				m := modelOf(g)
				if !slices.Equal(m.steps, steps) {
					t.Fatal(steps, m)
				}
				isCycled(t, g, m)
			}
		}
	}
}

// P13.1, P13.2: chains of up to 16 nonterminals, in rising, falling and other numbers; whatever link is the start: the order begins with the last link.
func TestChains(t *testing.T) {
	for n := 1; n <= 16; n++ {
		for _, links := range specimen.Orders(n) {
			steps := make([]uint32, n)
			for i := range n - 1 {
				steps[links[i]] = 1 << links[i+1]
			}
			for at, start := range links {
				order := slices.Clone(links[at:])
				slices.Reverse(order)
				isCycled(t, graph(steps, start, at%2 == 1), model{steps: steps, order: order})
			}
		}
	}
}

// P13.1, P13.2: of up to 16 nonterminals those from one to another come back to themselves, those ahead come to these, and these to those behind: the grammar is endless but for a start behind the cycle.
func TestRings(t *testing.T) {
	for n := 1; n <= 16; n++ {
		for _, links := range specimen.Orders(n) {
			for low := range n {
				for high := low + 1; high <= n; high++ {
					isRing(t, links, low, high)
				}
			}
		}
	}
}

// isRing holds such a grammar, with starts about the cycle's beginning and end, to what it must.
func isRing(t *testing.T, links []int, low, high int) {
	t.Helper()
	want := model{steps: make([]uint32, len(links)), cycles: setOf(links[low:high])}
	for i := range len(links) - 1 {
		want.steps[links[i]] = 1 << links[i+1]
	}
	want.steps[links[high-1]] |= 1 << links[low]
	for _, at := range []int{0, low - 1, low, high - 1, high, len(links) - 1} {
		if at < 0 || at >= len(links) {
			continue
		}
		want.endless, want.order, want.err = at < high, nil, api.ErrCycle
		if !want.endless {
			want.order, want.err = slices.Clone(links[at:]), api.OK
			slices.Reverse(want.order)
		}
		isCycled(t, graph(want.steps, links[at], at%2 == 1), want)
	}
}

// P13.1, P13.2: rings of up to 16 nonterminals none of which is productive, so none is a cycle, till one of them has another rule.
func TestNotProductive(t *testing.T) {
	for n := 1; n <= 16; n++ {
		for _, links := range specimen.Orders(n) {
			g := api.Grammar{Terms: specimen.Termed("T"), Nons: specimen.Numbered("e", n), Start: links[n/2]}
			steps := make([]uint32, n)
			for e := range n {
				to := links[(slices.Index(links, e)+1)%n]
				g.Rules = append(g.Rules, specimen.Rule(e, -1-to))
				steps[e] = 1 << to
			}
			isCycled(t, g, model{steps: make([]uint32, n)})
			for e := range n {
				for _, r := range []api.Rule{specimen.Rule(e, 0), specimen.Rule(e)} {
					h := specimen.Copied(g)
					h.Rules = append(h.Rules, r)
					isCycled(t, h, model{steps: steps, cycles: 1<<n - 1, endless: true, err: api.ErrCycle})
				}
			}
		}
	}
}

// P13.1, P13.2: up to 16 nonterminals, each of which comes at once to all that are ahead of it in some order, by Rights of up to six symbols: that is the order; one step back, and it is endless.
func TestDense(t *testing.T) {
	for n := 1; n <= 16; n++ {
		for _, links := range specimen.Orders(n) {
			g := api.Grammar{Nons: specimen.Numbered("e", n), Start: links[n-1]}
			want := model{steps: make([]uint32, n), order: links}
			for e := range n {
				// It is nullable by the first ones of these; only the first of all needs a rule without symbols.
				ahead := links[:slices.Index(links, e)]
				want.steps[e] = setOf(ahead)
				if len(ahead) == 0 {
					g.Rules = append(g.Rules, specimen.Rule(e))
				}
				for part := range slices.Chunk(ahead, 6) {
					r := specimen.Rule(e)
					for _, to := range part {
						r.Right = append(r.Right, -1-to)
					}
					g.Rules = append(g.Rules, r)
				}
			}
			isCycled(t, g, want)
			for at, e := range links {
				h := specimen.Copied(g)
				h.Rules = append(h.Rules, specimen.Rule(e, -1-links[n-1]))
				back := model{steps: slices.Clone(want.steps), cycles: setOf(links[at:]), endless: true, err: api.ErrCycle}
				back.steps[e] |= 1 << links[n-1]
				isCycled(t, h, back)
			}
		}
	}
}

// The kinds of symbols of a wide Right.
const (
	nullable = iota // a nonterminal of its own that is nullable
	same            // the Left
	full            // a nonterminal of its own that is productive, and isn't nullable
	term            // a terminal
	never           // a nonterminal of its own that isn't productive
	shared          // a nonterminal that may stand at other places, too
)

// P13.1, P13.2: a Right of up to six symbols of all kinds, with a Left that is nullable, and one that isn't.
func TestWide(t *testing.T) {
	for most := range 7 {
		kinds, of := make([]int, most), shared+1
		if most == 6 {
			of = never
		}
		for more := true; more; more = specimen.Count(kinds, of) {
			isWide(t, kinds, true)
			isWide(t, kinds, false)
		}
	}
}

// wide is a grammar whose first rule has symbols of some kinds; nonterminal 1 is the shared one, which is nullable just if the Left isn't.
func wide(kinds []int, empty bool) api.Grammar {
	g := api.Grammar{Terms: specimen.Termed("A", "B"), Nons: specimen.Numbered("e", 2+len(kinds)), Rules: []api.Rule{specimen.Rule(0), specimen.Rule(0, 0), specimen.Rule(1)}}
	if empty {
		g.Rules[1], g.Rules[2] = specimen.Rule(0), specimen.Rule(1, 0)
	}
	var right []int
	for i, kind := range kinds {
		own := 2 + i
		right = append(right, []int{nullable: -1 - own, same: -1, full: -1 - own, term: 1, never: -1 - own, shared: -2}[kind])
		r := specimen.Rule(own, 0)
		switch kind {
		case nullable:
			r = specimen.Rule(own)
		case never:
			r = specimen.Rule(own, -1-own, 0)
		}
		g.Rules = append(g.Rules, r)
	}
	g.Rules[0] = specimen.Rule(0, right...)
	return g
}

// isWide holds such a grammar to what the kinds tell.
func isWide(t *testing.T, kinds []int, empty bool) {
	t.Helper()
	g := wide(kinds, empty)
	ends := !slices.Contains(kinds, never)
	mayBeNothing := func(kind int) bool {
		return kind == nullable || kind == same && empty || kind == shared && !empty
	}
	var to, there []int
	for i, sym := range g.Rules[0].Right {
		others := slices.Delete(slices.Clone(kinds), i, i+1)
		if sym < 0 {
			there = append(there, -1-sym)
		}
		if sym < 0 && ends && !slices.ContainsFunc(others, func(kind int) bool { return !mayBeNothing(kind) }) {
			to = append(to, -1-sym)
		}
	}
	want := model{steps: make([]uint32, len(g.Nons))}
	want.steps[0] = setOf(to)
	if slices.Contains(to, 0) {
		want.cycles, want.endless, want.err = 1, true, api.ErrCycle
	} else {
		want.order = wideOrder(there, to, ends)
	}
	isCycled(t, g, want)
}

// wideOrder is the start, behind the greatest one to which it comes, and, rising, what else is of use.
func wideOrder(there, to []int, ends bool) []int {
	if !ends {
		return []int{0}
	}
	l := slices.DeleteFunc(slices.Clone(there), func(n int) bool { return n == 0 })
	slices.Sort(l)
	l = slices.Compact(l)
	at := 0
	if len(to) > 0 {
		at = slices.Index(l, slices.Max(to)) + 1
	}
	return slices.Insert(l, at, 0)
}

// P13.1, P13.2: all grammars of two nonterminals, a terminal, and three rules of at most two symbols, against a model.
func TestAllSmall(t *testing.T) {
	for g := range specimen.Every(1) {
		if cfg.Right(g) {
			isCycled(t, g, modelOf(g))
		} else {
			isNothing(t, g)
		}
	}
}

// drawn are grammars of up to 16 nonterminals: half of them with few rules, of few symbols.
func drawn(seed, n int) []api.Grammar {
	d := specimen.Drawer(seed)
	var l []api.Grammar
	for i := range n {
		if i%2 == 0 {
			l = append(l, d.Some(16))
			continue
		}
		nons := 1 + d.Below(16)
		l = append(l, d.Grammar(1+d.Below(4), nons, nons+d.Below(nons+1), 1+d.Below(2)))
	}
	return l
}

// P13.1, P13.2: drawn grammars, against a model: of each kind of them some.
func TestDrawn(t *testing.T) {
	var endless, cycles, none, long, mixed int
	for _, g := range drawn(13, 20000) {
		m := modelOf(g)
		isCycled(t, g, m)
		switch {
		case m.endless:
			endless++
		case m.cycles > 0:
			cycles++
		case len(m.order) == 0:
			none++
		}
		if len(m.order) > 5 {
			long++
		}
		if len(m.order) > 2 && !slices.IsSorted(m.order) && m.order[0] != slices.Max(m.order) {
			mixed++
		}
	}
	if endless < 1000 || cycles < 500 || none < 500 || long < 500 || mixed < 500 {
		t.Error(endless, cycles, none, long, mixed)
	}
}
