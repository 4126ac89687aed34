package cycle_test

import (
	"slices"
	"strings"
	"testing"

	"gerund/api"
	"gerund/cfg"
	"gerund/cycle"
	"gerund/specimen"
)

// isCycled holds what the calls answer of a grammar to what they must.
func isCycled(t *testing.T, g api.Grammar, want model) {
	t.Helper()
	steps, cycles, endless := cycle.Steps(g), cycle.Cycles(g), cycle.Endless(g)
	if !slices.Equal(steps, want.steps) || cycles != want.cycles || endless != want.endless {
		t.Fatalf("%v: %b %b %v, not %v", g, steps, cycles, endless, want)
	}
	order, e := cycle.Order(g)
	if e != want.err || !slices.Equal(order, want.order) || e != api.OK && len(order) > 0 {
		t.Fatalf("%v: %v %v, not %v", g, order, e, want)
	}
	if cfg.Right(g) {
		isInOrder(t, g)
	}
}

// isInOrder holds a grammar's order to having each nonterminal of use once, behind all to which it comes at once, each time the least that may come next, and to being there just if the grammar isn't endless.
func isInOrder(t *testing.T, g api.Grammar) {
	t.Helper()
	order, e := cycle.Order(g)
	if (e == api.OK) == cycle.Endless(g) {
		t.Fatalf("%v: %v", g, e)
	}
	steps, use := cycle.Steps(g), useOf(g)
	if e == api.OK {
		sorted := slices.Sorted(slices.Values(order))
		if !slices.Equal(sorted, use) {
			t.Fatalf("%v: %v: not all of %v", g, order, use)
		}
	}
	for i, n := range order {
		if !isNext(steps, order[:i], n) {
			t.Fatalf("%v: %v: %d ahead of what it comes to", g, order, n)
		}
		for _, later := range order[i:] {
			if later < n && isNext(steps, order[:i], later) {
				t.Fatalf("%v: %v: %d ahead of %d", g, order, n, later)
			}
		}
	}
	if len(use) <= 5 {
		if first, ok := firstOrder(steps, use); ok != (e == api.OK) || !slices.Equal(first, order) {
			t.Fatalf("%v: %v, not %v", g, order, first)
		}
	}
}

// isNothing holds the calls of a grammar that may not be to no answers.
func isNothing(t *testing.T, g api.Grammar) {
	t.Helper()
	isCycled(t, g, model{err: api.ErrArg})
}

// numbersOf are those of nonterminals whose names are letters; - is none.
func numbersOf(t *testing.T, g api.Grammar, letters string) []int {
	t.Helper()
	var l []int
	for _, s := range strings.Split(strings.Trim(letters, "-"), "") {
		n := slices.Index(g.Nons, s)
		if n < 0 {
			t.Fatalf("%v: no %s", g, s)
		}
		l = append(l, n)
	}
	return l
}

// setOf is the set of some nonterminals.
func setOf(nons []int) uint32 {
	var s uint32
	for _, n := range nons {
		s |= 1 << n
	}
	return s
}

// toldOf is a model told by letters: the steps of each nonterminal, the cycles, and the order, or ! of what is endless.
func toldOf(t *testing.T, g api.Grammar, steps, cycles, order string) model {
	t.Helper()
	m := model{cycles: setOf(numbersOf(t, g, cycles))}
	for _, s := range strings.Fields(steps) {
		m.steps = append(m.steps, setOf(numbersOf(t, g, s)))
	}
	if order == "!" {
		m.endless, m.err = true, api.ErrCycle
	} else {
		m.order = numbersOf(t, g, order)
	}
	return m
}

// told is a grammar's text, and what is told of it by letters.
type told struct{ text, steps, cycles, order string }

// isTold holds grammars, and the model too, to what is told.
func isTold(t *testing.T, l []told) {
	t.Helper()
	for _, x := range l {
		g := specimen.Read(t, x.text)
		want := toldOf(t, g, x.steps, x.cycles, x.order)
		isCycled(t, g, want)
		if m := modelOf(g); !slices.Equal(m.steps, want.steps) || m.cycles != want.cycles || m.endless != want.endless || !slices.Equal(m.order, want.order) || m.err != want.err {
			t.Errorf("%q: the model: %v", x.text, m)
		}
	}
}

// P13.1, P13.2: told steps: by Rights of few symbols and of many.
func TestToldSteps(t *testing.T) {
	isTold(t, []told{
		// No symbols, and terminals alone.
		{"%% s : ;", "-", "-", "s"},
		{"%% s : | | ;", "-", "-", "s"},
		{"%% s : 'a' | 'b' 'c' | ;", "-", "-", "s"},
		// One nonterminal.
		{"%% s : t ; t : 'a' ;", "t -", "-", "ts"},
		{"%% s : t ; t : ;", "t -", "-", "ts"},
		{"%% s : t | t | t ; t : 'a' | ;", "t -", "-", "ts"},
		{"%% s : t | n ; t : 'a' ; n : ;", "tn - -", "-", "tns"},
		{"%% s : s ;", "-", "-", "-"},
		{"%% s : s | 'a' ;", "s", "s", "!"},
		{"%% s : s | ;", "s", "s", "!"},
		// One nonterminal at several places.
		{"%% s : t t ; t : 'a' | ;", "t -", "-", "ts"},
		{"%% s : t t ; t : 'a' ;", "- -", "-", "st"},
		{"%% s : t t t t t t ; t : 'a' | ;", "t -", "-", "ts"},
		{"%% s : t t t t t t ; t : 'a' ;", "- -", "-", "st"},
		{"%% s : t 'b' t ; t : ;", "- -", "-", "st"},
		{"%% s : t n t ; t : 'a' ; n : ;", "- - -", "-", "stn"},
		{"%% s : t n t ; t : 'a' | ; n : ;", "tn - -", "-", "tns"},
		{"%% s : n t n ; t : 'a' ; n : ;", "t - -", "-", "tsn"},
		{"%% s : s s | 'a' ;", "-", "-", "s"},
		{"%% s : s s | ;", "s", "s", "!"},
		{"%% s : n s n s | 'a' ; n : ;", "- -", "-", "sn"},
		{"%% s : n s n s | ; n : ;", "sn -", "s", "!"},
		// At the beginning, in the middle, at the end; the others nullable, or one not, or a terminal among them.
		{"%% s : t n m ; t : 'a' ; n : ; m : 'b' | ;", "t - - -", "-", "tsnm"},
		{"%% s : n t m ; n : ; t : 'a' ; m : 'b' | ;", "t - - -", "-", "ntsm"},
		{"%% s : n m t ; n : ; m : 'b' | ; t : 'a' ;", "t - - -", "-", "nmts"},
		{"%% s : t n m ; t : ; n : ; m : 'b' | ;", "tnm - - -", "-", "tnms"},
		{"%% s : t n m ; t : 'a' ; n : 'c' ; m : ;", "- - - -", "-", "stnm"},
		{"%% s : n t m ; n : 'c' ; t : 'a' ; m : ;", "- - - -", "-", "sntm"},
		{"%% s : n m t ; n : ; m : 'c' ; t : 'a' ;", "- - - -", "-", "snmt"},
		{"%% s : t n 'c' | t 'c' | 'c' n t | 'c' t | n 'c' t ; t : 'a' | ; n : ;", "- - -", "-", "stn"},
		{"%% s : n s n | 'a' ; n : ;", "s -", "s", "!"},
		{"%% s : n s | 'a' ; n : ;", "s -", "s", "!"},
		{"%% s : s n | 'a' ; n : ;", "s -", "s", "!"},
		{"%% s : n s 'b' | 'a' ; n : ;", "- -", "-", "sn"},
		{"%% s : n s t | 'a' ; n : ; t : 'b' ;", "- - -", "-", "snt"},
		// Nullable by others, of which some have terminals, too.
		{"%% s : n t m ; t : 'a' ; n : m | 'b' m ; m : n | m m | ;", "t - m nm", "mn", "!"},
		{"%% s : n t ; t : 'a' ; n : m m ; m : o | 'b' ; o : ;", "t - m o -", "-", "tsomn"},
		{"%% s : n t ; t : 'a' ; n : m ; m : o 'b' | n 'c' ; o : ;", "- - m - -", "-", "stmno"},
	})
}

// P13.1, P13.2: told grammars some of which is of no use: it leads nowhere, isn't in the order, and holds none up.
func TestToldUse(t *testing.T) {
	isTold(t, []told{
		// Not productive: a rule with such a one leads nowhere.
		{"%% s : u ; u : u 'a' ;", "- -", "-", "-"},
		{"%% s : u | 'a' ; u : u ;", "- -", "-", "s"},
		{"%% s : u | 'a' ; u : v ; v : u ;", "- - -", "-", "s"},
		{"%% s : t u | 'a' ; t : ; u : u ;", "- - -", "-", "s"},
		{"%% s : u t | 'a' ; t : ; u : u ;", "- - -", "-", "s"},
		{"%% s : n t u | 'a' ; n : ; t : 'b' ; u : u t ;", "- - - -", "-", "s"},
		{"%% s : n s u | t n | 'a' ; n : ; u : 'b' u ; t : n 'c' ;", "t - - -", "-", "nts"},
		{"%% s : s u | u s | u | 'a' ; u : u u ;", "- -", "-", "s"},
		{"%% s : t | u ; t : 'a' ; u : s u ;", "t - -", "-", "ts"},
		{"%% s : n n u | n n ; n : n u | ; u : n u ;", "n - -", "-", "ns"},
		{"%start u %% s : s | 'a' ; u : s u ;", "s -", "s", "-"},
		// Not reachable: it has steps, may be a cycle, and isn't in the order.
		{"%% s : 'a' ; t : s ;", "- s", "-", "s"},
		{"%% s : 'a' ; t : t | 'b' ;", "- t", "t", "s"},
		{"%% s : 'a' ; a : a | 'a' ;", "- a", "a", "s"},
		{"%% s : 'a' ; t : v ; v : t | s | ;", "- v ts", "tv", "s"},
		{"%% s : n 'a' ; n : ; t : n t n | s ;", "- - ts", "t", "sn"},
		{"%% s : t u | 'a' ; t : t | 'b' ; u : u ;", "- t -", "t", "s"},
		{"%start t %% s : t s n | n ; t : 'a' ; n : ;", "nt - -", "-", "t"},
		{"%start t %% s : s s | t | ; t : 'a' ;", "st -", "s", "t"},
		// Neither: it leads nowhere, so it is no cycle.
		{"%% s : 'a' ; u : u ;", "- -", "-", "s"},
		{"%% s : 'a' ; u : v ; v : u | u v ;", "- - -", "-", "s"},
		{"%% s : 'a' ; t : u | s ; u : t u ;", "- s -", "-", "s"},
		// Reachable, though nothing comes to it at once.
		{"%% s : 'a' t ; t : t | 'b' ;", "- t", "t", "!"},
		{"%% s : t t ; t : t | 'b' ;", "- t", "t", "!"},
		{"%% s : 'a' t 'b' n ; t : v ; v : 'c' t | n ; n : ;", "- v n -", "-", "snvt"},
	})
}

// P13.1, P13.2: told cycles: of one, two and more, that share nonterminals, and that don't, and what comes to them.
func TestToldCycles(t *testing.T) {
	isTold(t, []told{
		// The chapter's example.
		{"%% s : a | 'b' ; a : s ;", "a s", "sa", "!"},
		{"%% s : a ; a : s | 'b' ;", "a s", "sa", "!"},
		{"%% s : a ; a : b ; b : s | 'a' ;", "a b s", "sab", "!"},
		{"%% s : a 'a' ; a : b ; b : s | ;", "- b s", "-", "sba"},
		// Cycles that share one, or two.
		{"%% s : a | b | 'c' ; a : s ; b : s ;", "ab s s", "sab", "!"},
		{"%% s : a | s | 'c' ; a : b ; b : a | s ;", "as b as", "sab", "!"},
		{"%% s : a ; a : b ; b : a | c | 'd' ; c : b | s ;", "a b ac bs", "sabc", "!"},
		// Cycles that don't, one of which comes to the other, or neither.
		{"%% s : a | c ; a : b ; b : a | 'd' ; c : c | 'e' ;", "ac b a c", "abc", "!"},
		{"%% s : s | a ; a : a | 'd' ;", "sa a", "sa", "!"},
		{"%% s : a | 'b' ; a : s ; c : d | s ; d : c ;", "a s ds c", "sacd", "!"},
		{"%% s : 'a' | b ; b : 'c' ; c : d | s ; d : c ; e : e | c | f ; f : 'f' ;", "b - ds c cef -", "cde", "bs"},
		// What comes to a cycle, or to which it comes, and isn't one.
		{"%% s : a ; a : b ; b : b | c ; c : 'd' ;", "a b bc -", "b", "!"},
		{"%% s : a ; a : b ; b : a | c ; c : d ; d : 'd' ;", "a b ac d -", "ab", "!"},
		{"%start c %% s : a ; a : b ; b : a | c ; c : d ; d : 'd' ;", "a b ac d -", "ab", "dc"},
		{"%start d %% s : a ; a : b ; b : a | c ; c : d ; d : 'd' ;", "a b ac d -", "ab", "d"},
		{"%start b %% s : a ; a : b ; b : a | c ; c : d ; d : 'd' ;", "a b ac d -", "ab", "!"},
		// By nullable ones alone.
		{"%% s : n t ; t : m s n | 'a' ; n : m ; m : ;", "t s m -", "st", "!"},
		{"%% s : n t ; t : m s n 'b' | 'a' ; n : m ; m : ;", "t - m -", "-", "tsmn"},
		{"%% s : n t ; t : m s n | 'a' ; n : m ; m : 'b' ;", "- - m -", "-", "stmn"},
	})
}

// P13.1, P13.2: told orders: the least number first, last, in between; a start that isn't the first one.
func TestToldOrders(t *testing.T) {
	isTold(t, []told{
		{"%% a : 'x' b c d ; b : 'x' ; c : 'x' ; d : 'x' ;", "- - - -", "-", "abcd"},
		{"%% a : b | c | d ; b : 'x' ; c : 'x' ; d : 'x' ;", "bcd - - -", "-", "bcda"},
		{"%% a : b | c | 'x' d ; b : 'x' ; c : 'x' ; d : 'x' ;", "bc - - -", "-", "bcad"},
		{"%% a : d | b b c c ; b : 'x' ; c : 'x' ; d : 'x' ;", "d - - -", "-", "bcda"},
		{"%% a : b ; b : c ; c : d ; d : 'x' ;", "b c d -", "-", "dcba"},
		{"%% a : d | d b c ; b : 'x' ; c : b | d ; d : 'x' ;", "d - bd -", "-", "bdac"},
		{"%% a : c ; b : 'x' ; c : d | 'y' b ; d : 'x' ;", "c - d -", "-", "bdca"},
		{"%% a : b 'x' ; b : d ; c : 'x' ; d : c ;", "- d - c", "-", "acdb"},
		{"%% a : c ; b : 'x' ; c : e | b 'x' d ; d : b ; e : 'x' ;", "c - e b -", "-", "bdeca"},
		{"%start d %% a : 'x' ; b : a ; c : b ; d : c | a ;", "- a b ac", "-", "abcd"},
		{"%start b %% a : 'x' ; b : a | c ; c : a 'x' ; d : b | c ;", "- ac - bc", "-", "acb"},
		{"%start c %% a : b 'x' ; b : d ; c : b | a ; d : 'x' ;", "- d ba -", "-", "adbc"},
	})
}

// P13.1: a grammar that may not be, in each way, has nothing, and is ErrArg, also where it would be endless, or of no use.
func TestMayNotBe(t *testing.T) {
	endless, empty := specimen.Small(), specimen.Small()
	endless.Rules[1].Right, endless.Rules[1].Prec = []int{-2, -2}, 1
	empty.Start, empty.Rules[3].Right = 0, []int{-2, -1}
	isCycled(t, specimen.Small(), model{steps: []uint32{2, 0}, order: []int{1}})
	isCycled(t, endless, model{steps: []uint32{2, 2}, cycles: 2, endless: true, err: api.ErrCycle})
	isCycled(t, empty, model{steps: []uint32{0, 0}})
	isNothing(t, api.Grammar{})
	for i, change := range specimen.Changes() {
		for _, was := range []api.Grammar{specimen.Small(), endless, empty} {
			g := specimen.Copied(was)
			change(&g)
			if cfg.Right(g) {
				t.Fatal(i, g)
			}
			isNothing(t, g)
		}
	}
}

// P13.1: what is of no use makes a grammar one that may not be, too.
func TestMayNotBeUnused(t *testing.T) {
	g := specimen.Read(t, "%% s : 'a' ; t : t | s ;")
	isCycled(t, g, model{steps: []uint32{0, 3}, cycles: 2, order: []int{0}})
	for _, change := range []func(*api.Grammar){
		func(g *api.Grammar) { g.Nons[1] = "1" },
		func(g *api.Grammar) { g.Nons[1] = "s" },
		func(g *api.Grammar) { g.Rules[1].Right[0] = -3 },
		func(g *api.Grammar) { g.Rules[2].Right = slices.Repeat([]int{-2}, 7) },
		func(g *api.Grammar) { g.Rules[2].Prec = 1 },
		func(g *api.Grammar) { g.Rules = g.Rules[:1] },
		func(g *api.Grammar) { g.Rules = append(g.Rules, slices.Repeat(g.Rules[2:], 38)...) },
		func(g *api.Grammar) { g.Terms = append(g.Terms, api.Term{Name: "t"}) },
	} {
		h := specimen.Copied(g)
		change(&h)
		isNothing(t, h)
	}
}

// kinds are grammars of all kinds: such as may be, and such as may not.
func kinds() []api.Grammar {
	return slices.Concat(specimen.Wrong(), []api.Grammar{specimen.Small()}, drawn(33, 400))
}

// P13.1: grammars stay as they were, their spare room too, and are answered the same once more.
func TestLeftAsItWas(t *testing.T) {
	for _, g := range kinds() {
		given, asWas := specimen.Spare(g)
		for range 2 {
			if cfg.Right(g) {
				isCycled(t, given, modelOf(g))
			} else {
				isNothing(t, given)
			}
		}
		if !asWas() {
			t.Fatal(given, g)
		}
	}
}

// P13.1: what is answered is new memory: who writes into a list of it changes neither what was handed in nor another answer.
func TestNewMemory(t *testing.T) {
	for _, g := range kinds() {
		was := specimen.Copied(g)
		steps, order := cycle.Steps(g), func() []int { l, _ := cycle.Order(g); return l }()
		a, b := slices.Clone(steps), slices.Clone(order)
		otherSteps, otherOrder := cycle.Steps(g), func() []int { l, _ := cycle.Order(g); return l }()
		specimen.Spoil(steps, 77)
		specimen.Spoil(order, 88)
		if !slices.Equal(otherSteps, a) || !slices.Equal(otherOrder, b) || !cfg.Same(g, was) {
			t.Fatal(was, g, otherSteps, otherOrder)
		}
		if l, _ := cycle.Order(g); !slices.Equal(cycle.Steps(g), a) || !slices.Equal(l, b) {
			t.Fatal(was, l)
		}
	}
}
