package cfg_test

import (
	"math"
	"slices"
	"testing"

	"gerund/api"
	"gerund/cfg"
)

// small is a grammar that may be, of everything something.
func small() api.Grammar {
	return api.Grammar{
		Terms: []api.Term{{Name: "A"}, {Name: "'+'", Level: 1, Assoc: api.AssocLeft}, {Name: "'-'", Level: 1, Assoc: api.AssocLeft}, {Name: "U", Level: 2, Assoc: api.AssocRight}, {Name: "error", Level: 3, Assoc: api.AssocNon}},
		Nons:  []string{"e", "f"},
		Rules: []api.Rule{{Left: 0, Right: []int{-1, 1, -2}, Prec: 1}, {Left: 1, Right: []int{2, -2}, Prec: 3}, {Left: 1, Prec: -1}, {Left: 0, Right: []int{-2, -1}, Prec: 0}, {Left: 1, Right: []int{0}, Prec: 0}},
		Start: 1,
	}
}

// isRight holds a grammar that is changed to whether it may be.
func isRight(t *testing.T, may bool, g api.Grammar, change func(*api.Grammar)) {
	t.Helper()
	c := copied(g)
	change(&c)
	if cfg.Right(c) != may || mayBe(c) != may {
		t.Errorf("%v: %v", c, !may)
	}
}

// P9.1: as many terminals, and such names, as may be, and one more, or another one.
func TestRightTerms(t *testing.T) {
	named := func(n int) []api.Term {
		var l []api.Term
		for _, s := range numbered("T", n) {
			l = append(l, api.Term{Name: s})
		}
		return l
	}
	g := api.Grammar{Nons: []string{"e"}, Rules: []api.Rule{{Prec: -1}}}
	for n, may := range map[int]bool{0: true, 1: true, 23: true, 24: true, 25: false, 26: false, 3000: false} {
		isRight(t, may, g, func(c *api.Grammar) { c.Terms = named(n) })
	}
	for _, s := range append(literals(), "A", "_", "x.1", "error", long(20)) {
		isRight(t, true, g, func(c *api.Grammar) { c.Terms = []api.Term{{Name: s}} })
		isRight(t, false, g, func(c *api.Grammar) { c.Terms = []api.Term{{Name: s}, {Name: s}} })
		isRight(t, false, g, func(c *api.Grammar) { c.Terms = []api.Term{{Name: s}, {Name: "z"}, {Name: s, Level: 1, Assoc: 1}} })
	}
	for _, s := range append(wrongTexts(), "e") {
		isRight(t, false, g, func(c *api.Grammar) { c.Terms = []api.Term{{Name: s}} })
		isRight(t, false, g, func(c *api.Grammar) { c.Terms = append(named(3), api.Term{Name: s}) })
	}
}

// P9.1: levels from 1 on without a gap, each of one way.
func TestRightLevels(t *testing.T) {
	levels := func(l ...int) []api.Term {
		var terms []api.Term
		for i, s := range numbered("T", len(l)/2) {
			terms = append(terms, api.Term{Name: s, Level: l[2*i], Assoc: l[2*i+1]})
		}
		return terms
	}
	g := api.Grammar{Nons: []string{"e"}, Rules: []api.Rule{{Prec: -1}}}
	for _, l := range [][]int{{0, 0}, {1, 1}, {1, 2}, {1, 3}, {0, 0, 0, 0}, {1, 3, 1, 3, 1, 3}, {1, 1, 2, 1}, {2, 1, 1, 1}, {3, 3, 0, 0, 1, 2, 2, 2, 3, 3}, {4, 1, 3, 2, 2, 3, 1, 1}} {
		isRight(t, true, g, func(c *api.Grammar) { c.Terms = levels(l...) })
	}
	for _, l := range [][]int{{0, 1}, {0, 2}, {0, 3}, {1, 0}, {2, 0}, {1, 4}, {1, -1}, {0, 4}, {0, -1}, {-1, 0}, {-1, 1}, {2, 1}, {2, 1, 3, 1}, {1, 1, 3, 1}, {1, 1, 1, 2}, {1, 1, 1, 0}, {1, 3, 2, 1, 1, 1}, {1, 1, 2, 1, 4, 1}, {1, 1, 2, 1, 2, 3},
		{0, 0, -1, 1}, {0, 0, -1, 1, 1, 1}, {-1, 1, 2, 1}, {0, 1, 2, 1}, {0, 0, 2, 2}, {math.MaxInt, 1}, {math.MinInt, 1}, {1, math.MinInt}, {1, 1, math.MaxInt, 1}, {1, 1, math.MinInt, 1}, {-1, 0, 1, 1}, {1, 5, 1, 5}} {
		isRight(t, false, g, func(c *api.Grammar) { c.Terms = levels(l...) })
	}
	all := make([]int, 48)
	for i := range 24 {
		all[2*i], all[2*i+1] = i+1, 1+i%3
	}
	isRight(t, true, g, func(c *api.Grammar) { c.Terms = levels(all...) })
	all[20] = 25
	isRight(t, false, g, func(c *api.Grammar) { c.Terms = levels(all...) })
}

// P9.1: as many nonterminals, and such names, as may be, and one more or less, or another one.
func TestRightNons(t *testing.T) {
	headed := func(l ...string) func(*api.Grammar) {
		return func(c *api.Grammar) {
			c.Nons, c.Rules = l, nil
			for i := range l {
				c.Rules = append(c.Rules, api.Rule{Left: i, Prec: -1})
			}
		}
	}
	g := api.Grammar{Terms: []api.Term{{Name: "A"}, {Name: "'a'"}}}
	for n, may := range map[int]bool{0: false, 1: true, 15: true, 16: true, 17: false, 18: false} {
		isRight(t, may, g, headed(numbered("e", n)...))
	}
	isRight(t, false, g, func(c *api.Grammar) { c.Rules = []api.Rule{{Prec: -1}} })
	isRight(t, false, g, func(c *api.Grammar) { c.Nons = []string{"e"} })
	isRight(t, true, g, headed("e", "f", "error", long(20)))
	for _, s := range append(append(wrongTexts(), literals()...), "A", "e") {
		isRight(t, false, g, headed("e", s))
		isRight(t, false, g, headed(s, "e", "f"))
	}
}

// P9.1: as many rules as may be; Lefts as they rise; each nonterminal is one.
func TestRightLefts(t *testing.T) {
	g := api.Grammar{Terms: []api.Term{{Name: "A"}}}
	led := func(nons int, lefts ...int) func(*api.Grammar) {
		return func(c *api.Grammar) {
			c.Nons = numbered("e", nons)
			for _, n := range lefts {
				c.Rules = append(c.Rules, api.Rule{Left: n, Prec: -1})
			}
		}
	}
	for _, l := range [][]int{{0}, {0, 0}, {0, 1}, {0, 1, 0}, {0, 0, 1, 1, 0, 2, 1, 0, 3}, {0, 1, 2, 3, 4}} {
		n := slices.Max(l) + 1
		isRight(t, true, g, led(n, l...))
		isRight(t, false, g, led(n+1, l...))
		isRight(t, false, g, led(n-1, l...))
	}
	for _, l := range [][]int{{1}, {1, 0}, {-1}, {0, -1}, {0, 2}, {0, 2, 1}, {0, 1, 3, 2}, {0, 0, 2}, {2, 1, 0}, {-1, 0, 1}, {0, math.MaxInt}, {0, math.MinInt}} {
		for n := range 5 {
			isRight(t, false, g, led(n, l...))
		}
	}
	isRight(t, true, g, led(1, make([]int, 40)...))
	isRight(t, false, g, led(1, make([]int, 41)...))
	isRight(t, true, g, led(2, append(make([]int, 39), 1)...))
	isRight(t, false, g, led(2, append(make([]int, 40), 1)...))
}

// P9.1: symbols that there are, as many as may be; Prec of rules with and without terminals; the start.
func TestRightRules(t *testing.T) {
	g := small()
	right := func(prec int, l ...int) func(*api.Grammar) {
		return func(c *api.Grammar) { c.Rules[1].Right, c.Rules[1].Prec = l, prec }
	}
	for n := range 10 {
		isRight(t, n <= 6, g, right(-1, slices.Repeat([]int{-1}, n)...))
		isRight(t, n <= 6, g, right(0, slices.Repeat([]int{4}, n)...))
		isRight(t, n <= 6, g, right(2, slices.Repeat([]int{-2}, n)...))
	}
	for sym, may := range map[int]bool{-2: true, -1: true, 0: true, 4: true, 5: false, -3: false, 99: false, math.MinInt: false, math.MaxInt: false} {
		isRight(t, may, g, right(0, sym))
		isRight(t, may, g, right(0, -1, 3, sym))
		isRight(t, may, g, right(0, sym, sym, sym, sym, sym, sym))
	}
	for prec, may := range map[int]bool{-3: false, -2: false, -1: false, 0: true, 4: true, 5: false, 6: false, math.MinInt: false, math.MaxInt: false} {
		isRight(t, may, g, right(prec, 0))
		isRight(t, may, g, right(prec, -1, 4, -1))
		isRight(t, may, g, right(prec, -1, -2, 0))
		isRight(t, may || prec == -1, g, right(prec, -1, -2))
		isRight(t, may || prec == -1, g, right(prec))
	}
	for start, may := range map[int]bool{0: true, 1: true, 2: false, -1: false, -2: false, -3: false, math.MinInt: false, math.MaxInt: false} {
		isRight(t, may, g, func(c *api.Grammar) { c.Start = start })
	}
	if cfg.Right(api.Grammar{}) {
		t.Error("nothing may be")
	}
}

// P9.1: drawn grammars, and all that are unlike them in one thing, against a model.
func TestRightDrawn(t *testing.T) {
	d, may, not := drawer(91), 0, 0
	for i := range 60 {
		g, _, e := cfg.Build(d.source(d.below(4), 1+d.below(4), d.below(8)))
		if i == 0 {
			g, e = small(), api.OK
		}
		if e != api.OK {
			continue
		}
		for _, x := range append(others(g), g) {
			if want := mayBe(x); cfg.Right(x) != want {
				t.Fatal(x, !want)
			} else if want {
				may++
			} else {
				not++
			}
		}
	}
	if may < 1000 || not < 1000 {
		t.Error(may, not)
	}
}
