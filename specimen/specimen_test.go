package specimen_test

import (
	"slices"
	"strings"
	"testing"

	"gerund/api"
	"gerund/auto"
	"gerund/cfg"
	"gerund/least"
	"gerund/show"
	"gerund/specimen"
	"gerund/trim"
)

// Drawn grammars may be, with whatever is told.
func TestDrawn(t *testing.T) {
	d := specimen.Drawer(1)
	for range 2000 {
		nons := 1 + d.Below(16)
		terms, rules, most := d.Below(25), nons+d.Below(41-nons), d.Below(7)
		g := d.Grammar(terms, nons, rules, most)
		if !cfg.Right(g) || len(g.Terms) != terms || len(g.Nons) != nons || len(g.Rules) != rules {
			t.Fatal(terms, nons, rules, g)
		}
		if g = d.Some(nons); !cfg.Right(g) || len(g.Nons) > nons {
			t.Fatal(nons, g)
		}
	}
}

// A thin grammar may be, and has fewer nonterminals in its Rights, at the places of which terminal 0 stands; what it was made of is as it was.
func TestThin(t *testing.T) {
	d := specimen.Drawer(2)
	for range 2000 {
		g := d.Some(16)
		was := specimen.Copied(g)
		h := d.Thin(g)
		if !cfg.Right(h) || !cfg.Same(g, was) || len(h.Rules) != len(g.Rules) {
			t.Fatal(was, g, h)
		}
		for i, r := range h.Rules {
			for at, sym := range r.Right {
				if was := g.Rules[i].Right[at]; sym != was && (sym != 0 || was >= 0) {
					t.Fatal(g, h)
				}
			}
		}
	}
}

// The small grammar may be, and isn't reduced; the usable one is; changed in any of the ways neither may be.
func TestChanges(t *testing.T) {
	if a, b := specimen.Small(), specimen.Usable(); !cfg.Right(a) || trim.Is(a) || !trim.Is(b) {
		t.Fatal(a, b)
	}
	l := specimen.Wrong()
	if len(l) != 1+2*len(specimen.Changes()) {
		t.Fatal(len(l))
	}
	for i, g := range l {
		if cfg.Right(g) {
			t.Error(i, g)
		}
	}
}

// What isn't reduced may be; of some of these nothing is of use, and what is of use of the others is reduced.
func TestUnreduced(t *testing.T) {
	l, reduced := specimen.Unreduced(t)
	for _, g := range l {
		if !cfg.Right(g) || trim.Is(g) {
			t.Error(g)
		}
	}
	for _, g := range reduced {
		if !trim.Is(g) {
			t.Error(g)
		}
	}
	if len(l) != 1+len(specimen.NotReduced()) || len(reduced) == 0 || len(reduced) == len(l) {
		t.Error(len(l), len(reduced))
	}
}

// ended is a test that tells whether it was ended.
type ended bool

func (*ended) Helper()                 {}
func (e *ended) Fatalf(string, ...any) { *e = true }

// A text's grammar is read, and no test ended; a text that has none ends it.
func TestRead(t *testing.T) {
	for text, end := range map[string]bool{"%% s : ;": false, "%token A %% s : A s | ;": false, "": true, "%% s : q ;": true} {
		var e ended
		if g := specimen.Read(&e, text); bool(e) != end || cfg.Right(g) == end {
			t.Error(text, g, e)
		}
	}
}

// What is told of grammars and is so ends no test; where something else is so, of one of several too, it is ended.
func TestIsTold(t *testing.T) {
	const one, two = "%% s : ;", "%% s : t 'a' ; t : ;"
	rights := func(g api.Grammar) [][]int { return [][]int{g.Rules[0].Right, {-1}} }
	names := func(g api.Grammar, syms []int) string {
		text := ""
		for _, sym := range syms {
			text += specimen.NameOf(g, sym)
		}
		return text
	}
	for _, x := range []struct {
		told map[string][]string
		end  bool
	}{
		{nil, false},
		{map[string][]string{one: {"", "s"}, two: {"t'a'", "s"}}, false},
		{map[string][]string{one: {"", "s"}, two: {"t'a'"}}, true},
		{map[string][]string{one: {"", "s", ""}}, true},
		{map[string][]string{one: {"s", ""}, two: {"t'a'", "s"}}, true},
		{map[string][]string{one: nil}, true},
	} {
		var e ended
		if specimen.IsTold(&e, x.told, rights, names); bool(e) != x.end {
			t.Error(x.told, e)
		}
	}
}

// Grammars of many states are reduced, in whatever order their nonterminals stand, and whatever is added to them.
func TestManyStates(t *testing.T) {
	for n := 2; n <= 8; n++ {
		for _, links := range specimen.Orders(n) {
			g := specimen.Remembering(links)
			was := specimen.Copied(g)
			for more := range 40 {
				for _, h := range []api.Grammar{specimen.Lengthened(g, more), specimen.Widened(g, more, true), specimen.Widened(g, more, false)} {
					if !trim.Is(h) || len(h.Rules) != len(g.Rules)+(more+5)/6 || !cfg.Same(g, was) {
						t.Fatal(g, more, h)
					}
				}
			}
		}
	}
}

// Grammars of about 300 states have just as many as is told, or too many; with a useless nonterminal they may be, and aren't reduced; whoever has enough ends it.
func TestAbout300(t *testing.T) {
	counts := map[int]int{}
	for states, g := range specimen.About300() {
		was := specimen.Copied(g)
		a, e := auto.Build(g)
		if states <= 300 && (e != api.OK || len(a) != states) || states > 300 && e != api.ErrMany {
			t.Fatal(states, len(a), e)
		}
		if h := specimen.Useless(g); !cfg.Right(h) || trim.Is(h) || !cfg.Same(g, was) {
			t.Fatal(g, h)
		}
		counts[states]++
	}
	if len(counts) != 4 || counts[300] != counts[301] || counts[299] != counts[302] || counts[300] < 10 {
		t.Error(counts)
	}
	n := 0
	for range specimen.About300() {
		if n++; n == 4 {
			break
		}
	}
	if n != 4 {
		t.Error(n)
	}
}

// Bent grammars may be; most of them are reduced.
func TestBent(t *testing.T) {
	d, reduced := specimen.Drawer(3), 0
	for range 500 {
		g := d.Bent()
		if !cfg.Right(g) {
			t.Fatal(g)
		}
		if trim.Is(g) {
			reduced++
		}
	}
	if reduced < 400 || reduced == 500 {
		t.Error(reduced)
	}
}

// Mixed grammars may be; most of them are reduced, and some not.
func TestMixed(t *testing.T) {
	reduced := 0
	for _, g := range specimen.Mixed(4, 1000) {
		if !cfg.Right(g) {
			t.Fatal(g)
		}
		if trim.Is(g) {
			reduced++
		}
	}
	if reduced < 600 || reduced > 950 {
		t.Error(reduced)
	}
}

// Varied grammars may be; most of them are reduced, and some not; some have few terminals, and some many.
func TestVaried(t *testing.T) {
	reduced, many := 0, 0
	l := specimen.Varied(5, 1000)
	for _, g := range l {
		if !cfg.Right(g) {
			t.Fatal(g)
		}
		if trim.Is(g) {
			reduced++
		}
		if len(g.Terms) > 12 {
			many++
		}
	}
	if len(l) != 1000 || reduced < 600 || reduced > 970 || many < 100 || many > 500 {
		t.Error(len(l), reduced, many)
	}
}

// The moves of a parse put terminals on one another, and rules' Lefts in the place of their Rights; at last the nonterminal stands there alone.
func TestMoves(t *testing.T) {
	d, short, long := specimen.Drawer(6), 0, 0
	for _, g := range specimen.Varied(7, 500) {
		if !trim.Is(g) {
			continue
		}
		for n := range g.Nons {
			if _, e := least.Tree(g, n); e != api.OK {
				continue
			}
			moves := d.Moves(g, n, 20)
			if isMoved(t, g, n, moves); len(moves) < 10 {
				short++
			} else {
				long++
			}
		}
	}
	if short < 100 || long < 100 {
		t.Error(short, long)
	}
}

// isMoved holds the moves of a nonterminal to leading to it.
func isMoved(t *testing.T, g api.Grammar, n int, moves []specimen.Move) {
	t.Helper()
	var way []int
	for _, x := range moves {
		if !x.Reduce {
			way = append(way, x.N)
			continue
		}
		r := g.Rules[x.N]
		at := len(way) - len(r.Right)
		if at < 0 || !slices.Equal(way[at:], r.Right) {
			t.Fatal(g, n, moves)
		}
		way = append(way[:at], -1-r.Left)
	}
	if !slices.Equal(way, []int{-1 - n}) {
		t.Fatal(g, n, moves, way)
	}
}

// Far numbers are far from those of anything that there is.
func TestFar(t *testing.T) {
	for _, n := range specimen.Far() {
		if n > -99 && n < 99 {
			t.Error(n)
		}
	}
}

// The numbers about some others are there, with those about none, and far ones.
func TestAbout(t *testing.T) {
	for _, n := range []int{0, 5, 300} {
		l := specimen.About(40, n)
		for _, x := range []int{-2, -1, 0, 1, 2, 39, 40, 41, n - 1, n, n + 1} {
			if !slices.Contains(l, x) {
				t.Error(n, x, l)
			}
		}
		if slices.Contains(l, 7) || slices.Contains(l, n+3) || len(l) != len(specimen.Far())+11 {
			t.Error(n, l)
		}
	}
}

// Digits are gone through till all below the base were there.
func TestCount(t *testing.T) {
	for n := range 5 {
		digits, seen := make([]int, n), map[string]bool{}
		for more := true; more; more = specimen.Count(digits, 3) {
			text := ""
			for _, d := range digits {
				text += string(rune('0' + d))
			}
			if seen[text] || strings.Trim(text, "012") != "" {
				t.Fatal(digits)
			}
			seen[text] = true
		}
		if all := []int{1, 3, 9, 27, 81}[n]; len(seen) != all {
			t.Error(n, len(seen))
		}
	}
}

// Every grammar there is once, those that may be and those that may not; whoever has enough ends it.
func TestEvery(t *testing.T) {
	for terms, rules := range []int{14, 26, 42} {
		all, may, seen := 0, 0, map[string]bool{}
		for g := range specimen.Every(terms) {
			if all++; cfg.Right(g) {
				may++
				text, e := show.Print(g)
				if seen[text] || e != api.OK {
					t.Fatal(g, e)
				}
				seen[text] = true
			}
		}
		// Three of eight ways in which Lefts stand may be: 0 0 1, 0 1 0 and 0 1 1.
		if all != 2*rules*rules*rules || 8*may != 3*all {
			t.Error(terms, all, may)
		}
	}
	n := 0
	for range specimen.Every(1) {
		if n++; n == 5 {
			break
		}
	}
	if n != 5 {
		t.Error(n)
	}
}

// Orders have each number below n once.
func TestOrders(t *testing.T) {
	for n := range 17 {
		for _, l := range specimen.Orders(n) {
			slices.Sort(l)
			if !slices.Equal(l, specimen.Rising(n)) {
				t.Error(n, l)
			}
		}
	}
}

// A grammar with spare room is the same one; whatever is written into it, or into its room, is told.
func TestSpare(t *testing.T) {
	g := specimen.Small()
	if given, asWas := specimen.Spare(g); !cfg.Same(given, g) || !asWas() {
		t.Fatal(given)
	}
	for i, change := range []func(*api.Grammar){
		func(g *api.Grammar) { g.Terms[0].Level = 9 },
		func(g *api.Grammar) { _ = append(g.Terms, api.Term{}) },
		func(g *api.Grammar) { g.Nons[1] = "x" },
		func(g *api.Grammar) { _ = append(g.Nons, "x") },
		func(g *api.Grammar) { g.Rules[1].Left = 9 },
		func(g *api.Grammar) { g.Rules[1].Prec = 9 },
		func(g *api.Grammar) { _ = append(g.Rules, api.Rule{}) },
		func(g *api.Grammar) { g.Rules[1].Right[1] = 9 },
		func(g *api.Grammar) { g.Rules[1].Right = nil },
		func(g *api.Grammar) { _ = append(g.Rules[1].Right, 9) },
		func(g *api.Grammar) { _ = append(g.Rules[2].Right, 9) },
	} {
		given, asWas := specimen.Spare(g)
		if change(&given); asWas() {
			t.Error(i, given)
		}
	}
	if !cfg.Same(g, specimen.Small()) {
		t.Error(g)
	}
}
