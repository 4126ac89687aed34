package auto_test

import (
	"slices"
	"testing"

	"gerund/api"
	"gerund/auto"
	"gerund/cfg"
	"gerund/specimen"
	"gerund/trim"
)

// isMany holds a grammar to having just so many states, or too many.
func isMany(t *testing.T, g api.Grammar, states int) {
	t.Helper()
	a := isBuilt(t, modelOf(g))
	_, e := auto.Build(g)
	if states <= 300 && (e != api.OK || len(a) != states) || states > 300 && (e != api.ErrMany || len(a) != 0) {
		t.Fatalf("%v: %d %v, not %d", g, len(a), e, states)
	}
}

// P15.1, P15.2: automata that double, of up to 16 nonterminals in rising, falling and other numbers: just so many states as they must have, more than 2^16 of the greatest one.
func TestRemembering(t *testing.T) {
	for n := 2; n <= 16; n++ {
		for _, links := range specimen.Orders(n) {
			isMany(t, specimen.Remembering(links), specimen.Remembered(n))
		}
	}
}

// P15.1, P15.2: automata of just 300 states, of one more, and of some fewer and more, brought early, late, or at the very end.
func TestMost(t *testing.T) {
	for at, links := range specimen.Orders(8) {
		g := specimen.Remembering(links)
		was := specimen.Remembered(8)
		for states := was; states <= 315; states++ {
			if at > 1 && (states < 298 || states > 303) {
				continue
			}
			isMany(t, specimen.Lengthened(g, states-was), states)
			isMany(t, specimen.Widened(g, states-was, true), states)
			isMany(t, specimen.Widened(g, states-was, false), states)
			isMany(t, specimen.Widened(specimen.Lengthened(g, 20), states-was, true), states+20)
		}
	}
}

// P15.1: a grammar that isn't reduced is ErrArg, also if it has too many states; reduced, ErrMany.
func TestReasons(t *testing.T) {
	for _, n := range []int{3, 8, 9, 15} {
		g := specimen.Remembering(specimen.Rising(n))
		for _, r := range []api.Rule{specimen.Rule(n), specimen.Rule(n, 0, -1), specimen.Rule(n, -1-n)} {
			h := specimen.Copied(g)
			h.Nons, h.Rules = append(h.Nons, "u"), append(h.Rules, r)
			isBuilt(t, modelOf(h))
			if a, e := auto.Build(h); len(a) != 0 || e != api.ErrArg {
				t.Error(n, r, len(a), e)
			}
			h, _, e := trim.Reduce(h)
			if e != api.OK {
				t.Fatal(n, r, e)
			}
			isMany(t, h, specimen.Remembered(n))
		}
	}
}

// P15.1, P15.2: automata of the most rules of the most symbols: a line for each, or one for all.
func TestLines(t *testing.T) {
	g := api.Grammar{Terms: specimen.Termed(specimen.Numbered("T", 24)...), Nons: specimen.Numbered("e", 1)}
	for i := range 24 {
		g.Rules = append(g.Rules, specimen.Rule(0, i, 23, 0, 23, 0, i))
		isMany(t, g, 2+6*len(g.Rules))
	}
	alike := api.Grammar{Terms: g.Terms, Nons: g.Nons}
	for range 40 {
		alike.Rules = append(alike.Rules, specimen.Rule(0, 5, 5, 5, 5, 5, 5))
		isMany(t, alike, 8)
	}
	for i := range alike.Rules {
		// From their last symbol on they part, each twelve of them another way.
		alike.Rules[i] = specimen.Rule(0, 5, 5, 5, 5, 5, i/12)
	}
	isMany(t, alike, 2+5+4)
}

// P15.1, P15.2: up to 16 nonterminals, each of which begins with the next one, the last one with the first: whichever an item has behind its place, the closure has all of them.
func TestRings(t *testing.T) {
	for n := 1; n <= 16; n++ {
		for _, links := range specimen.Orders(n) {
			g := api.Grammar{Terms: specimen.Termed("A"), Nons: specimen.Numbered("e", n), Start: links[n/2]}
			for e := range n {
				to := links[(slices.Index(links, e)+1)%n]
				g.Rules = append(g.Rules, specimen.Rule(e, -1-to, 0), specimen.Rule(e))
			}
			// State 0; and of each nonterminal the one behind it, and the one behind the terminal there.
			isMany(t, g, 1+2*n)
			m := modelOf(g)
			for _, p := range m.places {
				isClosed(t, m, []api.Item{p.item})
			}
			if all := auto.Closure(g, []api.Item{{Rule: -1}}); len(all) != 1+2*n {
				t.Fatal(g, all)
			}
		}
	}
}

// P15.1: closures over chains of up to 16 nonterminals, each of which begins with the next one, in rising, falling and other numbers: from each link on.
func TestChains(t *testing.T) {
	for n := 1; n <= 16; n++ {
		for _, links := range specimen.Orders(n) {
			g := api.Grammar{Terms: specimen.Termed("A"), Nons: specimen.Numbered("e", n), Start: links[0]}
			for e := range n {
				r := specimen.Rule(e, 0)
				if at := slices.Index(links, e) + 1; at < n {
					r = specimen.Rule(e, -1-links[at])
				}
				g.Rules = append(g.Rules, r)
			}
			m := modelOf(g)
			isMany(t, g, 2+n)
			for at, e := range links {
				all := isClosed(t, m, []api.Item{{Rule: e}})
				// A rule has its nonterminal's number.
				want := slices.Sorted(slices.Values(links[at:]))
				if !slices.EqualFunc(all, want, func(x api.Item, rule int) bool { return x == api.Item{Rule: rule} }) {
					t.Fatal(g, e, all)
				}
			}
		}
	}
}

// P15.1: of a small grammar the closures of all sets of items that there are, in order and out of it.
func TestAllClosures(t *testing.T) {
	for _, text := range []string{"%% s : t s | 'a' ; t : s | ;", "%start t %% s : 'a' t s ; t : t 'a' | ;", "%% s : t u ; t : u | 'a' ; u : s | ;"} {
		m := modelOf(specimen.Read(t, text))
		for set := range 1 << len(m.places) {
			var l []api.Item
			for i, p := range m.places {
				if set>>i&1 == 1 {
					l = append(l, p.item)
				}
			}
			isClosed(t, m, l)
			slices.Reverse(l)
			isClosed(t, m, append(l, l...))
		}
	}
}

// P15.1, P15.2: all grammars of two nonterminals, a terminal, and three rules of at most two symbols, against a model.
func TestAllSmall(t *testing.T) {
	built := 0
	for g := range specimen.Every(1) {
		if !cfg.Right(g) {
			isNothing(t, g)
			continue
		}
		m := modelOf(g)
		isBuilt(t, m)
		for _, p := range m.places {
			isItem(t, m, p.item)
			isClosed(t, m, []api.Item{p.item})
		}
		if m.err == api.OK {
			built++
		}
	}
	if built < 2000 {
		t.Error(built)
	}
}

// drawnItems are up to ten, a few of which aren't there, and some of which stand there again.
func drawnItems(d *specimen.Drawer, m model) []api.Item {
	var l []api.Item
	for range d.Below(11) {
		x := m.places[d.Below(len(m.places))].item
		switch d.Below(12) {
		case 0:
			x.Dot = d.Below(10) - 2
		case 1:
			x.Rule = d.Below(len(m.g.Rules)+6) - 3
		case 2:
			if len(l) > 0 {
				x = l[d.Below(len(l))]
			}
		}
		l = append(l, x)
	}
	return l
}

// drawnWay is one that the automaton has, of up to so many symbols.
func drawnWay(d *specimen.Drawer, m model, a []api.State, most int) way {
	w, at := m.reached(way{}), 0
	for range d.Below(most + 1) {
		edges := a[at].Edges
		if len(edges) == 0 {
			break
		}
		x := edges[d.Below(len(edges))]
		w, at = m.reached(w, x.Sym), x.To
	}
	return w
}

// isWayed holds the automaton to leading, by drawn ways, to the kernels of all of each way's symbols, and by no other symbols any further.
func isWayed(t *testing.T, d *specimen.Drawer, m model, a []api.State) {
	t.Helper()
	for range 4 {
		w := drawnWay(d, m, a, 12)
		to, ok := auto.Walk(a, 0, w.syms)
		if !ok || !slices.Equal(a[to].Kernel, m.kernel(w)) {
			t.Fatalf("%v: %v: %d %v", m.g, w.syms, to, ok)
		}
		for _, sym := range m.symbols() {
			longer := m.reached(w, sym)
			if _, ok := auto.Walk(a, 0, longer.syms); ok != (len(m.kernel(longer)) > 0) {
				t.Fatalf("%v: %v: %v", m.g, longer.syms, ok)
			}
		}
	}
}

// P15.1, P15.2: drawn grammars, items of them and ways through their automata, against a model: of each kind some.
func TestDrawn(t *testing.T) {
	d := specimen.Drawer(53)
	errs := map[api.Errno]int{}
	var great, wide, later int
	for _, g := range specimen.Mixed(15, 6000) {
		m := modelOf(g)
		a := isBuilt(t, m)
		for range 4 {
			l := drawnItems(&d, m)
			isClosed(t, m, l)
			for _, x := range l {
				isItem(t, m, x)
			}
		}
		errs[m.err]++
		if m.err != api.OK {
			continue
		}
		isWayed(t, &d, m, a)
		if len(a) > 100 {
			great++
		}
		if slices.ContainsFunc(a, func(s api.State) bool { return len(s.Kernel) > 5 }) {
			wide++
		}
		if g.Start > 0 {
			later++
		}
	}
	if errs[api.OK] < 3000 || errs[api.ErrArg] < 500 || errs[api.ErrMany] < 50 || great < 200 || wide < 500 || later < 500 {
		t.Error(errs, great, wide, later)
	}
}

// kinds are grammars of all kinds: such as may be, and such as may not.
func kinds() []api.Grammar {
	l := append(specimen.Wrong(), specimen.Small(), specimen.Usable(), specimen.Remembering(specimen.Rising(4)), specimen.Remembering(specimen.Rising(16)))
	return append(l, specimen.Mixed(33, 200)...)
}

// P15.1: grammars and items stay as they were, their spare room too, and are answered the same once more.
func TestLeftAsItWas(t *testing.T) {
	d := specimen.Drawer(55)
	for _, g := range kinds() {
		given, asWas := specimen.Spare(g)
		for range 2 {
			if !cfg.Right(g) {
				isNothing(t, given)
				continue
			}
			m := modelOf(g)
			m.g = given
			isBuilt(t, m)
			l := drawnItems(&d, m)
			full := append(slices.Clone(l), api.Item{Rule: -1}, api.Item{}, api.Item{Rule: 77}, api.Item{Dot: 77})
			was := slices.Clone(full)
			isClosed(t, m, full[:len(l)])
			for _, x := range l {
				isItem(t, m, x)
			}
			if !slices.Equal(full, was) {
				t.Fatal(g, full, was)
			}
		}
		if !asWas() {
			t.Fatal(given, g)
		}
	}
}

// copied are the same states, that share nothing with a.
func copied(a []api.State) []api.State {
	var l []api.State
	for _, s := range a {
		l = append(l, api.State{Kernel: slices.Clone(s.Kernel), Edges: slices.Clone(s.Edges)})
	}
	return l
}

// P15.1: states and symbols that are walked by stay as they were, their spare room too.
func TestWalkedStay(t *testing.T) {
	d := specimen.Drawer(56)
	for range 1000 {
		a, more := drawnStates(&d), api.State{Kernel: []api.Item{{Rule: 7}}, Edges: []api.Edge{{Sym: 0, To: 0}}}
		full := append(copied(a), more, more)
		for n := range a {
			full[n].Edges = append(full[n].Edges, api.Edge{Sym: 1, To: 1}, api.Edge{Sym: 0, To: 0})[:len(a[n].Edges)]
		}
		room := func() []api.State {
			l := copied(full)
			for n := range a {
				l[n].Edges = slices.Clone(full[n].Edges[:len(a[n].Edges)+2])
			}
			return l
		}
		was := room()
		for from := -1; from <= len(a); from++ {
			syms := drawnSymbols(&d, a, from)
			long := append(slices.Clone(syms), 0, 1, 2)
			asked := slices.Clone(long)
			if isWalked(t, full[:len(a)], from, long[:len(syms)]); !slices.Equal(long, asked) {
				t.Fatal(a, long, asked)
			}
		}
		if !same(room(), was) {
			t.Fatal(full, was)
		}
	}
}

// P15.1: what is answered is new memory: who writes into a list of it changes neither what was handed in, nor another list, nor another answer.
func TestNewMemory(t *testing.T) {
	d := specimen.Drawer(57)
	for _, g := range kinds() {
		if !cfg.Right(g) {
			continue
		}
		m, was := modelOf(g), specimen.Copied(g)
		l := drawnItems(&d, m)
		asked, all := slices.Clone(l), auto.Closure(g, l)
		if specimen.Spoil(all, api.Item{Rule: 88}); !slices.Equal(l, asked) || !cfg.Same(g, was) {
			t.Fatal(was, g, l, asked)
		}
		isClosed(t, m, l)
		a, _ := auto.Build(g)
		want, other := copied(a), func() []api.State { b, _ := auto.Build(g); return b }()
		for n := range a {
			specimen.Spoil(a[n].Kernel, api.Item{Rule: 88})
			specimen.Spoil(a[n].Edges, api.Edge{Sym: 88})
			a[n] = want[n]
			if !same(a, want) {
				t.Fatal(g, n, a)
			}
		}
		specimen.Spoil(a, api.State{})
		if !same(other, want) || !cfg.Same(g, was) {
			t.Fatal(was, g)
		}
		isBuilt(t, m)
	}
}
