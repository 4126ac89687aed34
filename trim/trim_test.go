package trim_test

import (
	"slices"
	"testing"

	"gerund/api"
	"gerund/cfg"
	"gerund/specimen"
	"gerund/trim"
)

// isTrimmed holds what the calls answer of a grammar to what they must, and what was reduced to being so.
func isTrimmed(t *testing.T, g api.Grammar, want model) {
	t.Helper()
	if a, b, c := trim.Nullable(g), trim.Productive(g), trim.Reachable(g); !slices.Equal(a, want.nullable) || !slices.Equal(b, want.productive) || !slices.Equal(c, want.reachable) {
		t.Fatalf("%v: %v %v %v, not %v", g, a, b, c, want)
	}
	h, kept, e := trim.Reduce(g)
	if e != want.err || !same(h, want.reduced) || !slices.Equal(kept, want.kept) {
		t.Fatalf("%v: %v %v %v, not %v", g, h, kept, e, want)
	}
	if is := trim.Is(g); is != want.is {
		t.Fatalf("%v: %v", g, is)
	}
	if e == api.OK {
		isOnce(t, g, h, kept)
	}
}

// isOnce holds a grammar that was reduced to what it has of the one it was, and to being reduced.
func isOnce(t *testing.T, g, h api.Grammar, kept []int) {
	t.Helper()
	if !cfg.Right(h) || !trim.Is(h) || !slices.Equal(h.Terms, g.Terms) || h.Nons[h.Start] != g.Nons[g.Start] || len(kept) != len(h.Rules) {
		t.Fatalf("%v: %v %v", g, h, kept)
	}
	all := slices.Repeat([]bool{true}, len(h.Nons))
	if a, b := trim.Productive(h), trim.Reachable(h); !slices.Equal(a, all) || !slices.Equal(b, all) {
		t.Fatalf("%v: %v: %v %v", g, h, a, b)
	}
	for i, n := range kept {
		if i > 0 && n <= kept[i-1] || n < 0 || n >= len(g.Rules) {
			t.Fatalf("%v: %v", g, kept)
		}
		if a, b := g.Rules[n], h.Rules[i]; g.Nons[a.Left] != h.Nons[b.Left] || a.Prec != b.Prec || !slices.Equal(namesOf(g, a.Right), namesOf(h, b.Right)) {
			t.Fatalf("%v: %v: %v %v", g, h, a, b)
		}
	}
	again, l, e := trim.Reduce(h)
	if e != api.OK || !same(again, h) || len(l) != len(h.Rules) {
		t.Fatalf("%v: %v %v %v", h, again, l, e)
	}
	for i, n := range l {
		if i != n {
			t.Fatalf("%v: %v", h, l)
		}
	}
}

// namesOf are those of symbols.
func namesOf(g api.Grammar, syms []int) []string {
	var l []string
	for _, sym := range syms {
		l = append(l, specimen.NameOf(g, sym))
	}
	return l
}

// flags is a text of 0 and 1 as a list.
func flags(s string) []bool {
	var l []bool
	for _, c := range s {
		l = append(l, c == '1')
	}
	return l
}

// P11.1, P11.2: told grammars; the text of the reduced one has all terminals and levels that there were; none: the start isn't productive.
func TestTold(t *testing.T) {
	for _, x := range []struct {
		text                            string
		nullable, productive, reachable string
		kept                            []int
		reduced                         string
	}{
		// The chapter's example.
		{"%% s : 'a' u | 'b' ; u : u 'c' ; v : 'd' ;", "000", "101", "100", []int{1}, "%token 'a' 'b' 'c' 'd' %% s : 'b' ;"},
		// One nonterminal: without symbols, a terminal, itself, both.
		{"%% s : ;", "1", "1", "1", []int{0}, "%% s : ;"},
		{"%% s : 'a' ;", "0", "1", "1", []int{0}, "%% s : 'a' ;"},
		{"%% s : s ;", "0", "0", "1", nil, ""},
		{"%% s : s s | s 'a' | 'a' s ;", "0", "0", "1", nil, ""},
		{"%% s : s | 'a' ;", "0", "1", "1", []int{0, 1}, "%% s : s | 'a' ;"},
		{"%% s : s s | ;", "1", "1", "1", []int{0, 1}, "%% s : s s | ;"},
		{"%% s : 'a' s | s | ;", "1", "1", "1", []int{0, 1, 2}, "%% s : 'a' s | s | ;"},
		// A terminal makes nothing nullable, wherever it stands.
		{"%% s : n 'a' | 'a' n | n 'a' n | t ; n : ; t : 'a' ;", "010", "111", "111", []int{0, 1, 2, 3, 4, 5}, "%% s : n 'a' | 'a' n | n 'a' n | t ; n : ; t : 'a' ;"},
		{"%% s : n n n n n n ; n : 'a' | ;", "11", "11", "11", []int{0, 1, 2}, "%% s : n n n n n n ; n : 'a' | ;"},
		{"%% s : n n n n n t ; n : 'a' | ; t : 'a' ;", "010", "111", "111", []int{0, 1, 2, 3}, "%% s : n n n n n t ; n : 'a' | ; t : 'a' ;"},
		// A start that isn't productive; what is reachable of it none the less.
		{"%% s : u ; u : u 'a' ;", "00", "00", "10", nil, ""},
		{"%% s : t 'a' u ; t : 'b' ; u : s ;", "000", "010", "100", nil, ""},
		{"%start u %% s : 'a' ; t : ; u : t u s ;", "010", "110", "001", nil, ""},
		// A rule with one that isn't productive: what else is in it may not be reachable, or by another rule alone.
		{"%% s : t u | 'a' ; t : 'b' ; u : u ;", "000", "110", "100", []int{1}, "%token 'a' 'b' %% s : 'a' ;"},
		{"%% s : u t | 'a' ; t : 'b' ; u : u ;", "000", "110", "100", []int{1}, "%token 'a' 'b' %% s : 'a' ;"},
		{"%% s : u t | t ; t : 'b' ; u : u ;", "000", "110", "110", []int{1, 2}, "%token 'b' %% s : t ; t : 'b' ;"},
		{"%% s : t | t u ; t : 'b' ; u : u ;", "000", "110", "110", []int{0, 2}, "%token 'b' %% s : t ; t : 'b' ;"},
		{"%% s : t ; t : 'b' | v u ; u : u ; v : s ;", "0000", "1101", "1100", []int{0, 1}, "%token 'b' %% s : t ; t : 'b' ;"},
		// Nothing that isn't productive is reachable but the start.
		{"%% s : 'a' | u ; u : u s ;", "00", "10", "10", []int{0}, "%% s : 'a' ;"},
		// Productive and not reachable: by none, by one that isn't reachable, by themselves.
		{"%% s : 'a' ; t : s ;", "00", "11", "10", []int{0}, "%% s : 'a' ;"},
		{"%% s : 'a' ; t : v ; v : t | s | ;", "011", "111", "100", []int{0}, "%% s : 'a' ;"},
		{"%start t %% s : t 'a' ; t : 'b' ;", "00", "11", "01", []int{1}, "%token 'a' 'b' %start t %% t : 'b' ;"},
		{"%start b %% a : b ; b : 'x' c ; c : ; d : c ;", "0011", "1111", "0110", []int{1, 2}, "%token 'x' %start b %% b : 'x' c ; c : ;"},
		// Numbered anew as they come: their order may be another one, for the rule with which one came is gone.
		{"%start b %% a : u ; b : a 'x' ; a : 'y' ; u : u ;", "000", "110", "110", []int{1, 2}, "%token 'x' 'y' %start b %% b : a 'x' ; a : 'y' ;"},
		{"%% s : c b a ; a : u ; b : u | u u ; c : s u ; u : u ; c : ; b : 'b' ; a : b ;", "00010", "11110", "11110", []int{0, 6, 7, 8}, "%% s : c b a ; c : ; b : 'b' ; a : b ;"},
		{"%start c %% a : u ; b : u ; c : u ; u : u ; c : b ; b : a ; a : ;", "1110", "1110", "1110", []int{4, 5, 6}, "%start c %% c : b ; b : a ; a : ;"},
		{"%start c %% a : u ; b : u ; c : u ; u : u ; a : 'x' ; b : a ; c : b ;", "0000", "1110", "1110", []int{4, 5, 6}, "%start c %% a : 'x' ; b : a ; c : b ;"},
		{"%start t %% s : x x | 'a' ; x : | s ; t : s ;", "111", "111", "111", []int{0, 1, 2, 3, 4}, "%start t %% s : x x | 'a' ; x : | s ; t : s ;"},
		// Rules that are alike all stay, or go.
		{"%% s : 'a' | u | 'a' | u | 'a' ; u : u | u ;", "00", "10", "10", []int{0, 2, 4}, "%% s : 'a' | 'a' | 'a' ;"},
		{"%% s : | | ;", "1", "1", "1", []int{0, 1, 2}, "%% s : | | ;"},
		// Terminals that no rule has, levels and ways, and what a rule has by %prec, of what stays and what goes.
		{"%token A B C %% s : B ;", "0", "1", "1", []int{0}, "%token A B C %% s : B ;"},
		{"%token Z %left '+' '-' %right U %nonassoc 'n' Y %% e : e '+' e | '-' e %prec U | u %prec Z | 'n' %prec '+' | %prec Y ; u : '-' u %prec Z ;", "10", "10", "10", []int{0, 1, 3, 4}, "%token Z %left '+' '-' %right U %nonassoc 'n' Y %% e : e '+' e | '-' e %prec U | 'n' %prec '+' | %prec Y ;"},
		{"%right A %left B %start f %% e : f e %prec B ; f : 'a' f f %prec A | 'a' %prec B ;", "00", "01", "01", []int{1, 2}, "%right A %left B %start f %% f : 'a' f f %prec A | 'a' %prec B ;"},
		{"%% s : error t | error ; t : error t ;", "00", "10", "10", []int{1}, "%% s : error ;"},
	} {
		g := specimen.Read(t, x.text)
		want := model{nullable: flags(x.nullable), productive: flags(x.productive), reachable: flags(x.reachable), kept: x.kept, err: api.ErrEmpty}
		if x.reduced != "" {
			want.reduced, want.err = specimen.Read(t, x.reduced), api.OK
			want.is = same(g, want.reduced)
		}
		isTrimmed(t, g, want)
		if (len(want.kept) == len(g.Rules)) != want.is {
			t.Errorf("%q: %v", x.text, want.is)
		}
		if m := modelOf(g); !slices.Equal(m.kept, want.kept) || !same(m.reduced, want.reduced) || m.err != want.err {
			t.Errorf("%q: the model: %v", x.text, m)
		}
	}
}

// chain is a grammar of nonterminals in some order, each of which has first a rule by which it comes to itself alone, and then, in another order, one with the next nonterminal; the last one's has what is told.
func chain(links, rules []int, end ...int) api.Grammar {
	g := api.Grammar{Terms: specimen.Termed("T"), Nons: specimen.Numbered("e", len(links))}
	for i := range links {
		g.Rules = append(g.Rules, api.Rule{Left: i, Right: []int{-1 - i}, Prec: -1})
	}
	for _, i := range rules {
		r := api.Rule{Left: links[i], Right: end, Prec: specimen.LastOf(end)}
		if i+1 < len(links) {
			r.Right, r.Prec = []int{-1 - links[i+1]}, -1
		}
		g.Rules = append(g.Rules, r)
	}
	return g
}

// P11.1, P11.2: chains of up to 16 nonterminals, each of which needs the next one, by rules behind or ahead of its own; whatever link is the start.
func TestChains(t *testing.T) {
	for n := 1; n <= 16; n++ {
		none, all := make([]bool, n), slices.Repeat([]bool{true}, n)
		for _, links := range specimen.Orders(n) {
			for _, rules := range specimen.Orders(n) {
				for from, start := range links {
					var behind []bool
					for i := range links {
						behind = append(behind, slices.Contains(links[from:], i))
					}
					g := chain(links, rules)
					g.Start = start
					isChained(t, g, all, all, behind)
					g = chain(links, rules, 0)
					g.Start = start
					isChained(t, g, none, all, behind)
					g = chain(links, rules, -1-links[0])
					g.Start = start
					isChained(t, g, none, none, slices.Concat(none[:start], all[:1], none[start+1:]))
				}
			}
		}
	}
}

// isChained holds a chain to which of it is nullable, productive and reachable, and to its rules that are kept by that.
func isChained(t *testing.T, g api.Grammar, nullable, productive, reachable []bool) {
	t.Helper()
	want := model{nullable: nullable, productive: productive, reachable: reachable, err: api.ErrEmpty}
	if productive[g.Start] {
		for i, r := range g.Rules {
			if reachable[r.Left] {
				want.kept = append(want.kept, i)
			}
		}
		want.reduced, want.err, want.is = builtOf(g, want.kept), api.OK, len(want.kept) == len(g.Rules)
	}
	isTrimmed(t, g, want)
}

// P11.1, P11.2: a ring of nonterminals that come back to themselves alone, till one of them has another rule.
func TestRings(t *testing.T) {
	for n := 1; n <= 16; n++ {
		for _, links := range specimen.Orders(n) {
			g := chain(links, specimen.Rising(n), -1-links[0])
			g.Start = links[n/2]
			isTrimmed(t, g, modelOf(g))
			none, all := make([]bool, n), slices.Repeat([]bool{true}, n)
			if !slices.Equal(trim.Productive(g), none) {
				t.Fatal(g)
			}
			for i := range n {
				h := specimen.Copied(g)
				h.Rules = append(h.Rules, api.Rule{Left: i, Right: []int{0}, Prec: 0})
				isChained(t, h, none, all, all)
				h.Rules[len(h.Rules)-1] = api.Rule{Left: i, Prec: -1}
				isChained(t, h, all, all, all)
			}
		}
	}
}

// P11.1, P11.2: a wide rule that needs six nonterminals: each of them, not productive, makes it of no use, and what else is in it.
func TestWide(t *testing.T) {
	for _, most := range []int{1, 2, 6} {
		for without := -1; without < most; without++ {
			g := api.Grammar{Terms: specimen.Termed("A", "B"), Nons: specimen.Numbered("e", most+1), Rules: []api.Rule{{Left: 0, Prec: -1}, {Left: 0, Right: []int{1}, Prec: 1}}}
			for i := range most {
				g.Rules[0].Right = append(g.Rules[0].Right, -2-i)
				r := api.Rule{Left: i + 1, Right: []int{0}, Prec: 0}
				if i == without {
					r = api.Rule{Left: i + 1, Right: []int{-2 - i}, Prec: -1}
				}
				g.Rules = append(g.Rules, r)
			}
			productive, reachable := slices.Repeat([]bool{true}, most+1), slices.Repeat([]bool{true}, most+1)
			want := model{nullable: make([]bool, most+1), productive: productive, reachable: reachable, kept: specimen.Rising(most + 2), is: true}
			if without >= 0 {
				productive[without+1] = false
				clear(reachable[1:])
				want.kept, want.is = []int{1}, false
			}
			want.reduced = builtOf(g, want.kept)
			isTrimmed(t, g, want)
		}
	}
}

// P11.1, P11.2: as many terminals, nonterminals and rules as may be, all of which stay, or all but one of the nonterminals go.
func TestMost(t *testing.T) {
	g := api.Grammar{Terms: specimen.Termed(specimen.Numbered("T", 24)...), Nons: specimen.Numbered("e", 16), Start: 15}
	for i := range g.Terms {
		g.Terms[i].Level, g.Terms[i].Assoc = 24-i, 1+i%3
	}
	for i := range 40 {
		n := min(i, 15)
		g.Rules = append(g.Rules, api.Rule{Left: n, Right: []int{i % 24, -1 - n, -1 - n, -1 - n, -1 - n, 23}, Prec: 5})
	}
	none, all := make([]bool, 16), slices.Repeat([]bool{true}, 16)
	isTrimmed(t, g, model{nullable: none, productive: none, reachable: slices.Concat(none[:15], all[:1]), err: api.ErrEmpty})
	g.Rules[39].Right = nil
	isTrimmed(t, g, model{nullable: slices.Concat(none[:15], all[:1]), productive: slices.Concat(none[:15], all[:1]), reachable: slices.Concat(none[:15], all[:1]), kept: specimen.Rising(40)[15:], reduced: builtOf(g, specimen.Rising(40)[15:])})
	for i := range 15 {
		g.Rules[i].Right = slices.Repeat([]int{-16}, 6)
	}
	g.Rules[16].Right = []int{-1, -2, -3, -4, -5, -6}
	g.Rules[17].Right = []int{-7, -8, -9, -10, -11, -12}
	g.Rules[18].Right = []int{-13, -14, -15, -16, 1, 2}
	isTrimmed(t, g, model{nullable: all, productive: all, reachable: all, kept: specimen.Rising(40), reduced: g, is: true})
}

// empty is one like the small one, whose start isn't productive.
func empty() api.Grammar {
	g := specimen.Small()
	g.Start, g.Rules[3].Right = 0, []int{-2, -1}
	return g
}

// P11.1: a grammar that may not be, in each way, has nothing, and is ErrArg, ahead of a start that isn't productive.
func TestMayNotBe(t *testing.T) {
	isTrimmed(t, specimen.Small(), modelOf(specimen.Small()))
	isTrimmed(t, empty(), modelOf(empty()))
	if _, _, e := trim.Reduce(empty()); e != api.ErrEmpty {
		t.Fatal(e)
	}
	for i, change := range specimen.Changes() {
		for _, g := range []api.Grammar{specimen.Small(), empty()} {
			change(&g)
			if cfg.Right(g) {
				t.Fatal(i, g)
			}
			isTrimmed(t, g, model{err: api.ErrArg})
		}
	}
}

// P11.1, P11.2: a grammar that may not be, for what is of no use in it, is ErrArg, though it would be well without.
func TestMayNotBeUnused(t *testing.T) {
	g := specimen.Read(t, "%% s : 'a' ; t : s u ; u : u ;")
	isTrimmed(t, g, model{nullable: flags("000"), productive: flags("100"), reachable: flags("100"), reduced: specimen.Read(t, "%% s : 'a' ;"), kept: []int{0}})
	for _, change := range []func(*api.Grammar){
		func(g *api.Grammar) { g.Nons[2] = "1" },
		func(g *api.Grammar) { g.Rules[1].Right[1] = -4 },
		func(g *api.Grammar) { g.Rules[2].Right = slices.Repeat([]int{-3}, 7) },
		func(g *api.Grammar) { g.Rules[2].Prec = 1 },
		func(g *api.Grammar) { g.Rules = g.Rules[:2] },
		func(g *api.Grammar) { g.Rules = append(g.Rules, slices.Repeat(g.Rules[2:], 38)...) },
		func(g *api.Grammar) { g.Terms = append(g.Terms, api.Term{Name: "u"}) },
	} {
		h := specimen.Copied(g)
		change(&h)
		isTrimmed(t, h, model{err: api.ErrArg})
	}
}

// P11.1, P11.2: a grammar all of which is of use is reduced; with one thing more that isn't, or its nonterminals in an order in which they don't come, it isn't so, or may not be.
func TestIs(t *testing.T) {
	g := specimen.Read(t, "%left A %% s : t A s | ; t : 'b' ; t : s 'c' ;")
	for _, x := range []struct {
		change func(*api.Grammar)
		is     bool
	}{
		{func(*api.Grammar) {}, true},
		{func(g *api.Grammar) { g.Terms = append(g.Terms, api.Term{Name: "D"}) }, true},
		{func(g *api.Grammar) { g.Start = 1 }, true},
		{func(g *api.Grammar) { g.Rules = append(g.Rules, g.Rules...) }, true},
		{func(g *api.Grammar) { g.Rules = append(g.Rules, api.Rule{Left: 0, Right: []int{-1}, Prec: -1}) }, true},
		{func(g *api.Grammar) {
			g.Nons, g.Rules = append(g.Nons, "u"), append(g.Rules, api.Rule{Left: 2, Prec: -1})
		}, false},
		{func(g *api.Grammar) {
			g.Nons, g.Rules = append(g.Nons, "u"), append(g.Rules, api.Rule{Left: 2, Right: []int{-3}, Prec: -1})
		}, false},
		{func(g *api.Grammar) {
			g.Nons, g.Rules = append(g.Nons, "u"), append(g.Rules, api.Rule{Left: 2, Right: []int{-3}, Prec: -1}, api.Rule{Left: 0, Right: []int{-3}, Prec: -1})
		}, false},
		{func(g *api.Grammar) {
			g.Nons, g.Rules = append(g.Nons, "u"), append(g.Rules, api.Rule{Left: 2, Prec: -1}, api.Rule{Left: 0, Right: []int{-3}, Prec: -1})
		}, true},
		{func(g *api.Grammar) { g.Rules[0].Right[0], g.Rules[3].Right[0] = -1, -2 }, false},
		{func(g *api.Grammar) { g.Rules[1].Right = []int{-2} }, true},
		{func(g *api.Grammar) { g.Rules[1].Right = []int{-1} }, false},
		{func(g *api.Grammar) { g.Rules[0].Left, g.Rules[1].Left = 1, 0 }, false},
		{func(g *api.Grammar) { g.Start = 2 }, false},
	} {
		h := specimen.Copied(g)
		x.change(&h)
		if is := trim.Is(h); is != x.is {
			t.Errorf("%v: %v", h, is)
		}
	}
}

// P11.1, P11.2: all grammars of two nonterminals, a terminal, and three rules of at most two symbols, against a model.
func TestAllSmall(t *testing.T) {
	for g := range specimen.Every(1) {
		if cfg.Right(g) {
			isTrimmed(t, g, modelOf(g))
		} else {
			isTrimmed(t, g, model{err: api.ErrArg})
		}
	}
}

// P11.1, P11.2: drawn grammars of up to 16 nonterminals, against a model; of each kind of them some.
func TestDrawn(t *testing.T) {
	d := specimen.Drawer(11)
	var none, is, less, moved, first int
	for i := range 12000 {
		most := 7
		if i%120 == 0 {
			most = 16
		}
		g := d.Some(most)
		m := modelOf(g)
		isTrimmed(t, g, m)
		switch {
		case m.err != api.OK:
			none++
		case m.is:
			is++
		default:
			less++
			if m.reduced.Start != g.Start {
				moved++
			}
			if !isPart(m.reduced.Nons, g.Nons) {
				first++
			}
		}
	}
	if none < 400 || is < 400 || less < 400 || moved < 400 || first < 100 {
		t.Error(none, is, less, moved, first)
	}
}

// isPart: are names some of others, in their order?
func isPart(part, whole []string) bool {
	for _, s := range whole {
		if len(part) > 0 && part[0] == s {
			part = part[1:]
		}
	}
	return len(part) == 0
}

// kinds are grammars of all kinds: such as may be, and such as may not.
func kinds() []api.Grammar {
	l := append(specimen.Wrong(), specimen.Small(), empty(), chain(specimen.Rising(16), specimen.Rising(16), 0))
	d := specimen.Drawer(33)
	for range 400 {
		l = append(l, d.Some(8))
	}
	return l
}

// P11.1: grammars stay as they were, their spare room too, and are answered the same once more.
func TestLeftAsItWas(t *testing.T) {
	for _, g := range kinds() {
		given, asWas := specimen.Spare(g)
		for range 2 {
			want := model{err: api.ErrArg}
			if cfg.Right(g) {
				want = modelOf(g)
			}
			isTrimmed(t, given, want)
		}
		if !asWas() {
			t.Fatal(given, g)
		}
	}
}

// P11.1: what is answered is new memory: who writes into a list of it changes neither what was handed in nor another list, and the next answer is the same.
func TestNewMemory(t *testing.T) {
	for _, g := range kinds() {
		was := specimen.Copied(g)
		h, kept, _ := trim.Reduce(g)
		want, numbers := specimen.Copied(h), slices.Clone(kept)
		nullable, productive, reachable := trim.Nullable(g), trim.Productive(g), trim.Reachable(g)
		specimen.Spoil(nullable, true)
		specimen.Spoil(productive, false)
		specimen.Spoil(reachable, true)
		for i := range h.Rules {
			fresh, l, _ := trim.Reduce(g)
			specimen.Spoil(fresh.Rules[i].Right, 77)
			fresh.Rules[i].Right = h.Rules[i].Right
			if !same(fresh, want) || !slices.Equal(l, numbers) || !same(g, was) {
				t.Fatal(was, fresh, l)
			}
		}
		specimen.Spoil(kept, 88)
		specimen.Spoil(h.Terms, api.Term{Name: "spoilt"})
		specimen.Spoil(h.Nons, "spoilt")
		specimen.Spoil(h.Rules, api.Rule{Left: 99})
		if !same(g, was) {
			t.Fatal(was, g)
		}
		if fresh, l, _ := trim.Reduce(g); !same(fresh, want) || !slices.Equal(l, numbers) {
			t.Fatal(g, fresh, l)
		}
		if cfg.Right(g) {
			isTrimmed(t, g, modelOf(g))
		}
	}
}
