package look_test

import (
	"maps"
	"slices"
	"testing"

	"gerund/api"
	"gerund/auto"
	"gerund/cfg"
	"gerund/first"
	"gerund/least"
	"gerund/look"
	"gerund/specimen"
)

// from are the numbers from one on, and below another one.
func from(low, high int) uint32 {
	return uint32(1<<high - 1<<low)
}

// listing is a grammar of so many terminals: lists of any of them.
func listing(terms int) api.Grammar {
	g := api.Grammar{Terms: specimen.Termed(specimen.Numbered("T", terms)...), Nons: []string{"e"}}
	for term := range terms {
		g.Rules = append(g.Rules, specimen.Rule(0, -1, term))
	}
	g.Rules = append(g.Rules, specimen.Rule(0))
	return g
}

// isSet holds a rule to having come to its end in the state behind symbols, with just such a set.
func isSet(t *testing.T, m model, l [][]api.Look, set uint32, rule int, syms ...int) {
	t.Helper()
	at, ok := auto.Walk(m.states, 0, syms)
	if !ok || !slices.Contains(l[at], api.Look{Rule: rule, Set: set}) {
		t.Fatalf("%v: %v: not %d with %b: %v", m.g, syms, rule, set, l)
	}
}

// P16.1, P16.2: as many terminals as may be, and fewer, down to none: all of them, and the end behind them, in one set.
func TestListing(t *testing.T) {
	for terms := range 25 {
		m := modelOf(listing(terms))
		l := isLooked(t, m)
		isSet(t, m, l, from(0, terms+1), terms)
		for term := range terms {
			isSet(t, m, l, from(0, terms+1), term, -1, term)
		}
		if at, _ := auto.Walk(m.states, 0, []int{-1}); len(l[at]) != 0 {
			t.Error(terms, l[at])
		}
	}
}

// linked is a grammar of links, numbered as is told: each has a rule of the next link and a terminal of its own, and, where they may stand alone, one of the next link alone; behind the last link is the symbol that is told.
func linked(links []int, last int, alone bool) api.Grammar {
	n := len(links)
	g := api.Grammar{Terms: specimen.Termed(specimen.Numbered("T", n+1)...), Nons: specimen.Numbered("e", n), Start: links[0]}
	for e := range n {
		link := slices.Index(links, e)
		next := last
		if link+1 < n {
			next = -1 - links[link+1]
		}
		g.Rules = append(g.Rules, specimen.Rule(e, next, link))
		if alone {
			g.Rules = append(g.Rules, specimen.Rule(e, next))
		}
	}
	return g
}

// P16.1: chains of up to 16 nonterminals, whose rules stand ahead of, or behind, those of the next one: what follows a link, and, where one may stand alone, all that follows those ahead of it.
func TestChains(t *testing.T) {
	for n := 1; n <= 16; n++ {
		for _, links := range specimen.Orders(n) {
			for _, alone := range []bool{false, true} {
				m := modelOf(linked(links, n, alone))
				l := isLooked(t, m)
				for link, e := range links {
					next, end := n, uint32(1)<<(n+1)
					if link+1 < n {
						next = -1 - links[link+1]
					}
					switch {
					case alone:
						isSet(t, m, l, from(0, link)|end, 2*e, next, link)
						isSet(t, m, l, from(0, link)|end, 2*e+1, next)
					case link == 0:
						isSet(t, m, l, end, e, next, link)
					default:
						isSet(t, m, l, 1<<(link-1), e, next, link)
					}
				}
			}
		}
	}
}

// P16.1: rings of up to 16 nonterminals, each of which begins with the next one, the last one with the first; one within may be a terminal, too, and the last one nothing.
func TestRings(t *testing.T) {
	for n := 1; n <= 16; n++ {
		for _, links := range specimen.Orders(n) {
			for _, alone := range []bool{false, true} {
				g := linked(links, -1-links[0], alone)
				rule := len(g.Rules)
				g.Rules = append(g.Rules, specimen.Rule(links[n/2], n), specimen.Rule(links[n-1]))
				m := modelOf(g)
				l := isLooked(t, m)
				end := uint32(1) << (n + 1)
				// What is the start's is told on to all others, and comes back, if they may stand alone.
				follow := func(link int) uint32 {
					if alone {
						return from(0, n) | end
					}
					s := uint32(1) << ((link + n - 1) % n)
					if link == 0 {
						s |= end
					}
					return s
				}
				isSet(t, m, l, follow(n/2), rule, n)
				isSet(t, m, l, follow(n-1), rule+1)
			}
		}
	}
}

// entered is a grammar whose start goes in at each of so many links, by a terminal of that link, and out by another one; a link goes on by a third one to the next link, the last one by it to the first, if they are a ring, or is nothing.
func entered(links []int, ring bool) api.Grammar {
	n := len(links)
	g := api.Grammar{Terms: specimen.Termed(specimen.Numbered("T", 3*n)...), Nons: append([]string{"s"}, specimen.Numbered("e", n)...)}
	for link, e := range links {
		g.Rules = append(g.Rules, specimen.Rule(0, link, -2-e, n+link))
	}
	for e := range n {
		link := slices.Index(links, e)
		right := []int{2*n + link, -2 - links[(link+1)%n]}
		if link == n-1 && !ring {
			right = right[:1]
		}
		g.Rules = append(g.Rules, specimen.Rule(1+e, right...), specimen.Rule(1+e))
	}
	return g
}

// P16.1, P16.2: sets that come to a state from several, along lines and along rings of states: wherever a link was gone in at, or is gone on to.
func TestEntered(t *testing.T) {
	for n := 1; n <= 8; n++ {
		for _, links := range specimen.Orders(n) {
			for _, ring := range []bool{false, true} {
				m := modelOf(entered(links, ring))
				l := isLooked(t, m)
				for in := range n {
					isSet(t, m, l, 1<<(3*n), in, in, -2-links[in], n+in)
					isPassed(t, m, l, links, ring, in)
				}
			}
		}
	}
}

// isPassed holds the sets on the way that goes in at a link to what they must be.
func isPassed(t *testing.T, m model, l [][]api.Look, links []int, ring bool, in int) {
	t.Helper()
	n := len(links)
	// What may come behind a link that was gone on to, by way of the one ahead, up to so many of them.
	upTo := func(link int) uint32 {
		if ring {
			link = n
		}
		return from(n, n+link)
	}
	way, own := []int{in}, uint32(1)<<(n+in)
	for link := in; link < n; link++ {
		rule := n + 2*links[link]
		isSet(t, m, l, own, rule+1, way...)
		way = append(way, 2*n+link)
		if link+1 < n || ring {
			isSet(t, m, l, upTo(link+1), rule, append(slices.Clone(way), -2-links[(link+1)%n])...)
		} else {
			isSet(t, m, l, upTo(link+1), rule, way...)
		}
		own = upTo(link + 1)
	}
}

// wide is a grammar of a rule whose symbols are of told kinds: a nonterminal, one that may be nothing, too, or a terminal; each of them has a terminal of its own. That rule is the start's; or one of a nonterminal behind which one terminal more stands.
func wide(kinds []int, within bool) api.Grammar {
	n := len(kinds)
	g := api.Grammar{Terms: specimen.Termed(specimen.Numbered("T", n+1)...), Nons: []string{"s"}}
	if within {
		g.Nons, g.Rules = append(g.Nons, "w"), append(g.Rules, specimen.Rule(0, -2, n))
	} else {
		g.Terms = g.Terms[:n]
	}
	at := len(g.Rules)
	g.Rules = append(g.Rules, specimen.Rule(at))
	var right []int
	for i, kind := range kinds {
		sym := i
		if kind < 2 {
			e := len(g.Nons)
			g.Nons, g.Rules = append(g.Nons, "e"+g.Terms[i].Name), append(g.Rules, specimen.Rule(e, i))
			sym = -1 - e
		}
		if kind == 1 {
			g.Rules = append(g.Rules, specimen.Rule(-1-sym))
		}
		right = append(right, sym)
	}
	g.Rules[at] = specimen.Rule(at, right...)
	return g
}

// P16.1, P16.2: a Right of up to six symbols, each of which is a nonterminal, one that may be nothing, too, or a terminal.
func TestWide(t *testing.T) {
	for most := range 7 {
		kinds := make([]int, most)
		for more := true; more; more = specimen.Count(kinds, 3) {
			for _, within := range []bool{false, true} {
				isWide(t, wide(kinds, within), kinds)
			}
		}
	}
}

// isWide holds a wide grammar to what its kinds tell. Behind its rule comes the end, or the one terminal more: of the same number.
func isWide(t *testing.T, g api.Grammar, kinds []int) {
	t.Helper()
	m := modelOf(g)
	l, rule := isLooked(t, m), len(g.Terms)-len(kinds)
	right := g.Rules[rule].Right
	isSet(t, m, l, 1<<len(kinds), rule, right...)
	for i, kind := range kinds {
		if kind == 2 {
			continue
		}
		// Up to the first one behind it that is something; if there is none, up to what is behind them all.
		to := i + 1
		for to < len(kinds) && kinds[to] == 1 {
			to++
		}
		ahead := slices.Clone(right[:i])
		rule++
		isSet(t, m, l, from(i+1, to+1), rule, append(ahead, i)...)
		if kind == 1 {
			rule++
			isSet(t, m, l, from(i+1, to+1), rule, ahead...)
		}
	}
}

// isTogether holds the model to what states that know more have together, if there are at most so many of these; and is that so?
func isTogether(t *testing.T, m model, most int) bool {
	t.Helper()
	sets, ok := m.together(most)
	if ok && !maps.Equal(sets, m.sets) {
		t.Fatalf("%v: %v, not %v", m.g, m.sets, sets)
	}
	return ok
}

// P16.1, P16.2: all grammars of two nonterminals, two terminals, and three rules of at most two symbols, against models.
func TestAllSmall(t *testing.T) {
	looked := 0
	for g := range specimen.Every(2) {
		if !cfg.Right(g) {
			isRefused(t, g, api.ErrArg)
			continue
		}
		m := modelOf(g)
		isLooked(t, m)
		if m.err == api.OK {
			if looked++; !isTogether(t, m, 1000) {
				t.Fatal(g)
			}
		}
	}
	if looked < 10000 {
		t.Error(looked)
	}
}

// P16.1, P16.2: drawn grammars, against models: of each kind some; some sets that have all that follows, and some that have less.
func TestDrawn(t *testing.T) {
	errs := map[api.Errno]int{}
	var great, whole, part, together, late int
	for _, g := range specimen.Varied(16, 5000) {
		m := modelOf(g)
		l := isLooked(t, m)
		errs[m.err]++
		if m.err != api.OK {
			continue
		}
		follow := first.Follow(g)
		for _, x := range slices.Concat(l...) {
			if x.Set == follow[g.Rules[x.Rule].Left] {
				whole++
			} else {
				part++
			}
		}
		if len(l) > 100 {
			great++
		}
		if len(l) < 40 && isTogether(t, m, 300) {
			together++
		}
		if g.Start > 0 {
			late++
		}
	}
	if errs[api.OK] < 3000 || errs[api.ErrArg] < 300 || errs[api.ErrMany] < 30 || great < 100 || whole < 10000 || part < 10000 || together < 1000 || late < 300 {
		t.Error(errs, great, whole, part, together, late)
	}
}

// isParsed holds lookaheads to having, wherever a parse reduces a rule, what comes next; at last it stands behind the start.
func isParsed(t *testing.T, m model, l [][]api.Look, moves []specimen.Move) {
	t.Helper()
	var way []int
	for i, x := range moves {
		if !x.Reduce {
			way = append(way, x.N)
			continue
		}
		next := len(m.g.Terms)
		if j := slices.IndexFunc(moves[i:], func(x specimen.Move) bool { return !x.Reduce }); j >= 0 {
			next = moves[i+j].N
		}
		at, ok := auto.Walk(m.states, 0, way)
		if !ok || !slices.Contains(look.Rules(l[at], next), x.N) {
			t.Fatalf("%v: %v: %v %d: %v", m.g, moves, way, next, l)
		}
		r := m.g.Rules[x.N]
		way = append(way[:len(way)-len(r.Right)], -1-r.Left)
	}
	if !slices.Equal(way, []int{-1 - m.g.Start}) {
		t.Fatal(m.g, moves, way)
	}
}

// P16.1: drawn trees of drawn grammars, each with what a parse of its sentence sees at each of its rules.
func TestParsed(t *testing.T) {
	d, parsed := specimen.Drawer(163), 0
	for _, g := range specimen.Varied(162, 1000) {
		m := modelOf(g)
		if _, e := least.Tree(g, g.Start); m.err != api.OK || e != api.OK {
			continue
		}
		l := isLooked(t, m)
		for range 5 {
			if tree := d.Moves(g, g.Start, 30); len(tree) < 2000 {
				isParsed(t, m, l, tree)
				parsed++
			}
		}
	}
	if parsed < 2000 {
		t.Error(parsed)
	}
}

// kinds are grammars of all kinds: such as may be, and such as may not.
func kinds() []api.Grammar {
	l := append(specimen.Wrong(), specimen.Small(), specimen.Usable(), specimen.Remembering(specimen.Rising(4)), specimen.Remembering(specimen.Rising(16)), listing(24))
	return append(l, specimen.Varied(33, 200)...)
}

// P16.1: grammars stay as they were, their spare room too, and are answered the same once more.
func TestLeftAsItWas(t *testing.T) {
	for _, g := range kinds() {
		given, asWas := specimen.Spare(g)
		m := modelOf(g)
		m.g = given
		isLooked(t, m)
		isLooked(t, m)
		if !asWas() {
			t.Fatal(given, g)
		}
	}
}

// P16.1: what is answered is new memory: who writes into a list of it changes neither what was handed in, nor another list, nor another answer.
func TestNewMemory(t *testing.T) {
	for _, g := range kinds() {
		m, was := modelOf(g), specimen.Copied(g)
		l, other := isLooked(t, m), isLooked(t, m)
		for n := range l {
			specimen.Spoil(l[n], api.Look{Rule: 88, Set: 88})
			l[n] = m.looks[n]
			if !same(l, m.looks) {
				t.Fatal(was, n, l)
			}
		}
		if specimen.Spoil(l, nil); !same(other, m.looks) || !cfg.Same(g, was) {
			t.Fatal(was, g)
		}
		isLooked(t, m)
	}
}
