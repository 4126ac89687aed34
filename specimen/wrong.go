package specimen

import (
	"math"
	"slices"

	"gerund/api"
	"gerund/trim"
)

// Small is a grammar that may be, of everything something, all of which is productive.
func Small() api.Grammar {
	return api.Grammar{
		Terms: []api.Term{{Name: "A"}, {Name: "U", Level: 2, Assoc: api.AssocRight}, {Name: "'+'", Level: 1, Assoc: api.AssocLeft}, {Name: "error", Level: 3, Assoc: api.AssocNon}, {Name: "'-'", Level: 1, Assoc: api.AssocLeft}},
		Nons:  []string{"e", "f"},
		Rules: []api.Rule{{Left: 0, Right: []int{-1, 2, -2}, Prec: 2}, {Left: 1, Right: []int{4, -2}, Prec: 1}, {Left: 1, Prec: -1}, {Left: 0, Right: []int{-2, -2}, Prec: 0}, {Left: 1, Right: []int{0}, Prec: 0}},
		Start: 1,
	}
}

// Usable is one like the small one, that is reduced.
func Usable() api.Grammar {
	g := Small()
	g.Start = 0
	return g
}

// wrongNames are neither names nor literals.
func wrongNames() []string {
	return []string{"", " ", "1", ".a", "%%", ";", "a b", "é", Long(21), "'", "''", "'ab'", `'\'`, "'\n'", `"a"`}
}

// Changes are what makes the small grammar one that may not be: each a way that chapter 9 names.
func Changes() []func(*api.Grammar) {
	return slices.Concat(changedNames(), changedLists(), changedNumbers())
}

// Wrong are grammars that may not be: one of nothing, and the small one and the usable one, changed in each of those ways.
func Wrong() []api.Grammar {
	l := make([]api.Grammar, 1)
	for _, change := range Changes() {
		for _, g := range []api.Grammar{Small(), Usable()} {
			change(&g)
			l = append(l, g)
		}
	}
	return l
}

// changedNames are those of names, and of terminals' levels.
func changedNames() []func(*api.Grammar) {
	l := []func(*api.Grammar){
		func(g *api.Grammar) { g.Terms[4].Name = "A" },
		func(g *api.Grammar) { g.Terms = append(g.Terms, g.Terms[2]) },
		func(g *api.Grammar) { g.Terms[0].Name = "f" },
		func(g *api.Grammar) { g.Nons[1] = "'a'" },
		func(g *api.Grammar) { g.Nons[0] = "f" },
	}
	for _, s := range wrongNames() {
		l = append(l, func(g *api.Grammar) { g.Terms[1].Name = s }, func(g *api.Grammar) { g.Nons[1] = s })
	}
	for _, x := range [][2]int{{0, 1}, {0, 2}, {0, 3}, {0, 4}, {0, -1}, {2, 0}, {2, 4}, {2, -1}, {1, 2}, {1, 3}, {3, 2}, {4, 2}, {-1, 0}, {-1, 1}, {1, 0}, {math.MaxInt, 2}, {math.MinInt, 2}, {2, math.MinInt}} {
		l = append(l, func(g *api.Grammar) { g.Terms[1].Level, g.Terms[1].Assoc = x[0], x[1] })
	}
	return l
}

// changedLists are those of how many there are of what, and of the order of rules.
func changedLists() []func(*api.Grammar) {
	return []func(*api.Grammar){
		func(g *api.Grammar) { *g = api.Grammar{} },
		func(g *api.Grammar) { g.Terms = append(g.Terms, Termed(Numbered("T", 20)...)...) },
		func(g *api.Grammar) { g.Terms = nil },
		func(g *api.Grammar) { g.Nons = nil },
		func(g *api.Grammar) { g.Nons, g.Rules = nil, nil },
		func(g *api.Grammar) { g.Nons = append(g.Nons, "g") },
		func(g *api.Grammar) { g.Nons, g.Start = g.Nons[:1], 0 },
		func(g *api.Grammar) {
			g.Nons = append(g.Nons, Numbered("g", 15)...)
			for i := range 15 {
				g.Rules = append(g.Rules, api.Rule{Left: 2 + i, Prec: -1})
			}
		},
		func(g *api.Grammar) { g.Rules = nil },
		func(g *api.Grammar) { g.Rules = append(g.Rules, slices.Repeat(g.Rules[2:3], 36)...) },
		func(g *api.Grammar) { g.Rules[0], g.Rules[1] = g.Rules[1], g.Rules[0] },
		func(g *api.Grammar) { g.Nons, g.Rules[2].Left, g.Rules[3].Left = append(g.Nons, "g", "h"), 3, 2 },
		func(g *api.Grammar) { g.Rules = append(g.Rules[:1], g.Rules[3]) },
		func(g *api.Grammar) { g.Rules[3].Right = []int{-1, -1, -1, -1, -1, -1, -1} },
		func(g *api.Grammar) { g.Rules[4].Right = []int{0, 0, 0, 0, 0, 0, 0} },
	}
}

// changedNumbers are those of the start, and of what a rule has: its Left, symbols and Prec.
func changedNumbers() []func(*api.Grammar) {
	l := []func(*api.Grammar){
		func(g *api.Grammar) { g.Rules[0].Prec = -1 },
		func(g *api.Grammar) { g.Rules[4].Prec = -1 },
	}
	for _, n := range []int{-1, 2, 3, -2, math.MinInt, math.MaxInt} {
		l = append(l, func(g *api.Grammar) { g.Start = n }, func(g *api.Grammar) { g.Rules[2].Left = n }, func(g *api.Grammar) { g.Rules[0].Left = n })
	}
	for _, n := range []int{5, -3, 99, -99, math.MinInt, math.MaxInt} {
		l = append(l, func(g *api.Grammar) { g.Rules[0].Right[0] = n }, func(g *api.Grammar) { g.Rules[1].Right = []int{4, -2, -1, n} })
	}
	for _, n := range []int{-2, 5, -3, 99, -99, math.MinInt, math.MaxInt} {
		l = append(l, func(g *api.Grammar) { g.Rules[0].Prec = n }, func(g *api.Grammar) { g.Rules[2].Prec = n }, func(g *api.Grammar) { g.Rules[3].Prec = n })
	}
	return l
}

// NotReduced are texts of grammars that may be and aren't reduced.
func NotReduced() []string {
	return []string{
		// The start isn't productive.
		"%% s : s ;",
		"%% s : s 'a' | t ; t : s ;",
		"%% s : t ; t : 'a' t ;",
		"%start t %% s : 'a' ; t : t s ;",
		// Another one isn't productive: reachable but for that, or not.
		"%% s : 'a' u | 'b' ; u : u 'c' ;",
		"%% s : u | 'a' ; u : u ;",
		"%% s : 'b' ; u : u ;",
		"%start t %% u : u ; t : 'b' | u ;",
		"%% s : s u s | ; u : s u ;",
		// One isn't reachable: by none, by itself alone, by others that aren't, by a rule alone with one that isn't productive.
		"%% s : 'a' ; t : 'b' ;",
		"%start t %% s : 'a' ; t : 'b' ;",
		"%start t %% s : t ; t : 'b' ;",
		"%% s : ; t : s ;",
		"%% s : 'a' ; t : t 'b' | 'b' ;",
		"%% s : s 'a' | ; t : v ; v : t | 'b' | s ;",
		"%% s : 'a' | t u ; t : 'b' ; u : u ;",
		"%% s : 'a' | u t ; t : 'b' ; u : u s ;",
	}
}

// Unreduced are grammars that may be and aren't reduced; and of these what is of use, where something is.
func Unreduced(t Test) ([]api.Grammar, []api.Grammar) {
	t.Helper()
	l := []api.Grammar{Small()}
	for _, text := range NotReduced() {
		l = append(l, Read(t, text))
	}
	var reduced []api.Grammar
	for _, g := range l {
		if h, _, e := trim.Reduce(g); e == api.OK {
			reduced = append(reduced, h)
		}
	}
	return l, reduced
}

// Far are numbers such as nothing has, also if some of their bits are passed over.
func Far() []int {
	return []int{math.MinInt, math.MinInt + 1, -1 << 32, -1<<32 - 1, -1<<32 + 1, math.MinInt32, -65536, -257, -256, -255, -99, 99, 254, 255, 256, 257, 65536, math.MaxInt32, 1<<32 - 1, 1 << 32, 1<<32 + 1, math.MaxInt - 1, math.MaxInt}
}

// About are the numbers about some others, and about none, and far away.
func About(l ...int) []int {
	all := append(Far(), -2, -1, 0, 1, 2)
	for _, n := range l {
		all = append(all, n-1, n, n+1)
	}
	return all
}
