package specimen_test

import (
	"slices"
	"testing"

	"gerund/api"
	"gerund/cfg"
	"gerund/specimen"
)

// Drawn grammars may be, with whatever is told.
func TestDrawn(t *testing.T) {
	d := specimen.Drawer(1)
	for range 2000 {
		nons := 1 + d.Below(16)
		terms, rules, most := d.Below(25), nons+d.Below(41-nons), d.Below(7)
		g := d.Grammar(terms, nons, rules, most)
		if !cfg.Right(g) || len(g.Terms) != terms || len(g.Nons) != nons || len(g.Rules) != rules {
			t.Fatal(terms, nons, rules, g)
		}
		if g = d.Some(nons); !cfg.Right(g) || len(g.Nons) > nons {
			t.Fatal(nons, g)
		}
	}
}

// The small grammar may be; changed in any of the ways it may not.
func TestChanges(t *testing.T) {
	if !cfg.Right(specimen.Small()) {
		t.Fatal(specimen.Small())
	}
	for i, change := range specimen.Changes() {
		g := specimen.Small()
		if change(&g); cfg.Right(g) {
			t.Error(i, g)
		}
	}
}

// Orders have each number below n once.
func TestOrders(t *testing.T) {
	for n := range 17 {
		for _, l := range specimen.Orders(n) {
			slices.Sort(l)
			if !slices.Equal(l, specimen.Rising(n)) {
				t.Error(n, l)
			}
		}
	}
}

// A grammar with spare room is the same one; whatever is written into it, or into its room, is told.
func TestSpare(t *testing.T) {
	g := specimen.Small()
	if given, asWas := specimen.Spare(g); !cfg.Same(given, g) || !asWas() {
		t.Fatal(given)
	}
	for i, change := range []func(*api.Grammar){
		func(g *api.Grammar) { g.Terms[0].Level = 9 },
		func(g *api.Grammar) { _ = append(g.Terms, api.Term{}) },
		func(g *api.Grammar) { g.Nons[1] = "x" },
		func(g *api.Grammar) { _ = append(g.Nons, "x") },
		func(g *api.Grammar) { g.Rules[1].Left = 9 },
		func(g *api.Grammar) { g.Rules[1].Prec = 9 },
		func(g *api.Grammar) { _ = append(g.Rules, api.Rule{}) },
		func(g *api.Grammar) { g.Rules[1].Right[1] = 9 },
		func(g *api.Grammar) { g.Rules[1].Right = nil },
		func(g *api.Grammar) { _ = append(g.Rules[1].Right, 9) },
		func(g *api.Grammar) { _ = append(g.Rules[2].Right, 9) },
	} {
		given, asWas := specimen.Spare(g)
		if change(&given); asWas() {
			t.Error(i, given)
		}
	}
	if !cfg.Same(g, specimen.Small()) {
		t.Error(g)
	}
}
