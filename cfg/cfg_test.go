package cfg_test

import (
	"math"
	"slices"
	"testing"

	"gerund/api"
	"gerund/cfg"
)

// odd is a grammar that may not be: names alike, without a text, and of no form; what it tells of its symbols is as they are.
func odd() api.Grammar {
	return api.Grammar{Terms: []api.Term{{Name: "x"}, {Name: ""}, {Name: "y"}, {Name: "x", Level: 1}, {Name: "1"}}, Nons: []string{"z", "y", "e", "z", ""}, Start: -7}
}

// P9.1: symbols that there are, and such as there aren't.
func TestNames(t *testing.T) {
	g := small()
	for sym, name := range map[int]string{0: "A", 1: "'+'", 2: "'-'", 3: "U", 4: "error", -1: "e", -2: "f"} {
		if n, ok := cfg.Find(g, name); !ok || n != sym || !cfg.Has(g, sym) || cfg.Name(g, sym) != name {
			t.Error(sym, name, n, ok)
		}
	}
	for _, sym := range []int{5, -3, 6, -4, 99, -99, math.MaxInt, math.MinInt, math.MinInt + 1, 1 << 32, -1 << 32, -1<<32 - 1} {
		if cfg.Has(g, sym) || cfg.Name(g, sym) != "" {
			t.Error(sym)
		}
	}
	for _, name := range []string{"", "a", "AA", "E", "+", "'+", "'*'", "e ", "\x00", "errors", long(5000)} {
		if n, ok := cfg.Find(g, name); ok || n != 0 {
			t.Error(name, n, ok)
		}
	}
	none := api.Grammar{}
	for _, sym := range []int{0, -1, 1, -2, math.MaxInt, math.MinInt} {
		if n, ok := cfg.Find(none, ""); ok || n != 0 || cfg.Has(none, sym) || cfg.Name(none, sym) != "" {
			t.Error(sym)
		}
	}
}

// P9.1: of one name a terminal is found first, then the first nonterminal, in grammars that may not be, too.
func TestNamesOfOdd(t *testing.T) {
	g := odd()
	for name, sym := range map[string]int{"x": 0, "": 1, "y": 2, "1": 4, "z": -1, "e": -3} {
		if n, ok := cfg.Find(g, name); !ok || n != sym {
			t.Error(name, n, ok)
		}
	}
	for sym, name := range map[int]string{0: "x", 1: "", 2: "y", 3: "x", 4: "1", -1: "z", -2: "y", -3: "e", -4: "z", -5: ""} {
		if !cfg.Has(g, sym) || cfg.Name(g, sym) != name {
			t.Error(sym, name)
		}
	}
	if cfg.Has(g, 5) || cfg.Has(g, -6) || cfg.Name(g, 5) != "" || cfg.Name(g, -6) != "" {
		t.Error("more than there are")
	}
	g.Terms = nil
	for name, sym := range map[string]int{"": -5, "y": -2, "z": -1} {
		if n, ok := cfg.Find(g, name); !ok || n != sym {
			t.Error(name, n, ok)
		}
	}
}

// P9.1: grammars that are the same, and such as differ in one name, level, way, rule, symbol, Prec, start, or length.
func TestSame(t *testing.T) {
	d := drawer(19)
	for i := range 30 {
		g, _, e := cfg.Build(d.source(d.below(4), 1+d.below(4), d.below(8)))
		if i == 0 {
			g, e = small(), api.OK
		}
		if e != api.OK {
			continue
		}
		if !cfg.Same(g, g) || !cfg.Same(g, copied(g)) || !cfg.Same(copied(g), g) {
			t.Fatal(g)
		}
		for _, x := range others(g) {
			if cfg.Same(g, x) || cfg.Same(x, g) || !cfg.Same(x, copied(x)) {
				t.Fatal(g, x)
			}
		}
	}
}

// P9.1: grammars that may not be are the same or not, too; a list that holds nothing may be nil or empty.
func TestSameOfAny(t *testing.T) {
	l := []api.Grammar{
		{}, {Start: 1}, {Start: -1}, odd(),
		{Terms: []api.Term{{}}}, {Terms: []api.Term{{}, {}}}, {Terms: []api.Term{{Name: "a"}}}, {Terms: []api.Term{{Level: -1}}}, {Terms: []api.Term{{Assoc: 9}}},
		{Nons: []string{""}}, {Nons: []string{"", ""}}, {Nons: []string{"a"}}, {Nons: []string{"a", ""}}, {Nons: []string{"", "a"}},
		{Rules: []api.Rule{{}}}, {Rules: []api.Rule{{}, {}}}, {Rules: []api.Rule{{Left: -1}}}, {Rules: []api.Rule{{Prec: -1}}}, {Rules: []api.Rule{{Right: []int{0}}}}, {Rules: []api.Rule{{Right: []int{0, 0}}}}, {Rules: []api.Rule{{Right: []int{0}}, {}}}, {Rules: []api.Rule{{}, {Right: []int{0}}}},
	}
	for i, a := range l {
		for j, b := range l {
			if cfg.Same(a, b) != (i == j) {
				t.Error(a, b)
			}
		}
	}
	empty := api.Grammar{Terms: []api.Term{}, Nons: []string{}, Rules: []api.Rule{}}
	if !cfg.Same(empty, api.Grammar{}) || !cfg.Same(api.Grammar{}, empty) {
		t.Error("empty")
	}
	empty.Rules = []api.Rule{{Right: []int{}}}
	if bare := (api.Grammar{Rules: []api.Rule{{}}}); !cfg.Same(empty, bare) || !cfg.Same(bare, empty) {
		t.Error("empty in it")
	}
}

// P9.1: the calls leave grammars as they were, their spare room too, and bytes.
func TestLeftAsItWas(t *testing.T) {
	for _, g := range append(others(small()), small(), odd()) {
		full := copied(g)
		full.Terms = append(full.Terms, api.Term{Name: "spare"})
		full.Nons = append(full.Nons, "spare")
		for i, r := range full.Rules {
			full.Rules[i].Right = append(slices.Clone(r.Right), 55)[:len(r.Right)]
		}
		full.Rules = append(full.Rules, api.Rule{Left: 44})
		given := api.Grammar{Terms: full.Terms[:len(g.Terms)], Nons: full.Nons[:len(g.Nons)], Rules: full.Rules[:len(g.Rules)], Start: g.Start}
		cfg.Right(given)
		cfg.Same(given, small())
		cfg.Same(small(), given)
		for _, sym := range []int{0, 1, -1, -2, 99, -99} {
			cfg.Find(given, cfg.Name(given, sym))
			cfg.Has(given, sym)
		}
		if !same(given, g) || full.Terms[len(g.Terms)] != (api.Term{Name: "spare"}) || full.Nons[len(g.Nons)] != "spare" || full.Rules[len(g.Rules)].Left != 44 {
			t.Fatal(given, g)
		}
		for _, r := range given.Rules {
			if r.Right[:len(r.Right)+1][len(r.Right)] != 55 {
				t.Fatal(given, g)
			}
		}
	}
	d := drawer(5)
	for range 100 {
		text := d.written(d.changed(d.source(2, 2, 4)))
		b := append([]byte(text), "%% spare"...)
		g, at, e := cfg.Read(b[:len(text)])
		if string(b) != text+"%% spare" {
			t.Fatalf("%q", b)
		}
		was := copied(g)
		clear(b)
		if again, p, f := cfg.Read([]byte(text)); !same(g, was) || !same(again, g) || p != at || f != e {
			t.Fatalf("%q: %v", text, g)
		}
	}
}
