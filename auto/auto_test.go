package auto_test

import (
	"math"
	"slices"
	"strconv"
	"strings"
	"testing"

	"gerund/api"
	"gerund/auto"
	"gerund/cfg"
	"gerund/specimen"
	"gerund/trim"
)

// items are all about those that a grammar has: of each rule, of rules about these, and far away.
func items(g api.Grammar) []api.Item {
	var l []api.Item
	dots := append(specimen.Far(), -3, -2, -1, 0, 1, 2, 3, 4, 5, 6, 7, 8, 9)
	for rule := -4; rule < len(g.Rules)+4; rule++ {
		for _, dot := range dots {
			l = append(l, api.Item{Rule: rule, Dot: dot})
		}
	}
	for _, rule := range specimen.Far() {
		for dot := -1; dot < 8; dot++ {
			l = append(l, api.Item{Rule: rule, Dot: dot})
		}
	}
	return l
}

// isItem holds what the calls answer of an item to what they must.
func isItem(t *testing.T, m model, x api.Item) {
	t.Helper()
	var want place
	i := slices.IndexFunc(m.places, func(p place) bool { return p.item == x })
	if i >= 0 {
		want = m.places[i]
	}
	has := auto.Has(m.g, x)
	sym, ok := auto.Next(m.g, x)
	if has != (i >= 0) || sym != want.sym || ok != want.ok {
		t.Fatalf("%v: %v: %v, %d %v, not %v", m.g, x, has, sym, ok, want)
	}
}

// isClosed holds the closure of items to what it must be: the model's; and its own one.
func isClosed(t *testing.T, m model, l []api.Item) []api.Item {
	t.Helper()
	all := auto.Closure(m.g, l)
	if want := m.closure(l); !slices.Equal(all, want) {
		t.Fatalf("%v: %v: %v, not %v", m.g, l, all, want)
	}
	if again := auto.Closure(m.g, all); !slices.Equal(again, all) {
		t.Fatalf("%v: %v: %v", m.g, all, again)
	}
	return all
}

// same: are the states of two automata the same ones?
func same(a, b []api.State) bool {
	return slices.EqualFunc(a, b, func(x, y api.State) bool {
		return slices.Equal(x.Kernel, y.Kernel) && slices.Equal(x.Edges, y.Edges)
	})
}

// isBuilt holds a grammar's automaton to what it must be: the model's; and such as the chapter says.
func isBuilt(t *testing.T, m model) []api.State {
	t.Helper()
	a, e := auto.Build(m.g)
	if e != m.err || !same(a, m.states) || e != api.OK && len(a) > 0 {
		t.Fatalf("%v: %v %v, not %v %v", m.g, a, e, m.states, m.err)
	}
	if e == api.OK {
		isWhole(t, m, a)
	}
	return a
}

// isWhole holds an automaton to having each kernel once, each state come to from those ahead of it, in the order in which it is.
func isWhole(t *testing.T, m model, a []api.State) {
	t.Helper()
	if len(a) == 0 || len(a) > 300 || !slices.Equal(a[0].Kernel, []api.Item{{Rule: -1}}) {
		t.Fatalf("%v: %v", m.g, a)
	}
	came := 1
	for n, s := range a {
		if n >= came {
			t.Fatalf("%v: %v: no edge ahead of it leads to state %d", m.g, a, n)
		}
		for _, x := range s.Edges {
			if x.To < 0 || x.To > came {
				t.Fatalf("%v: %v: state %d isn't the next one", m.g, a, x.To)
			}
			came = max(came, x.To+1)
		}
		for other := range n {
			if slices.Equal(a[other].Kernel, s.Kernel) {
				t.Fatalf("%v: %v: %d is %d", m.g, a, n, other)
			}
		}
		isMoved(t, m, a, n)
	}
	if came != len(a) {
		t.Fatalf("%v: %v: %d states", m.g, a, came)
	}
}

// isMoved holds a state's edges to being those with the symbols behind the places of its closure's items, in order, and to leading to these items moved on, and to no others.
func isMoved(t *testing.T, m model, a []api.State, n int) {
	t.Helper()
	moved := map[int][]api.Item{}
	for _, x := range isClosed(t, m, a[n].Kernel) {
		if sym, ok := auto.Next(m.g, x); ok {
			moved[sym] = append(moved[sym], api.Item{Rule: x.Rule, Dot: x.Dot + 1})
		}
	}
	if len(moved) != len(a[n].Edges) || !slices.IsSortedFunc(a[n].Edges, func(x, y api.Edge) int { return edgeOrder(x.Sym, y.Sym) }) {
		t.Fatalf("%v: %v: %d: not the edges", m.g, a, n)
	}
	for _, x := range a[n].Edges {
		// Where a symbol stood twice, there would be fewer than edges.
		if !slices.Equal(moved[x.Sym], a[x.To].Kernel) {
			t.Fatalf("%v: %v: %d: %v", m.g, a, n, x)
		}
		if to, ok := auto.Walk(a, n, []int{x.Sym}); to != x.To || !ok {
			t.Fatalf("%v: %v: %d: %v: %d %v", m.g, a, n, x, to, ok)
		}
	}
}

// isNothing holds the calls of a grammar that may not be to no items, and no automaton.
func isNothing(t *testing.T, g api.Grammar) {
	t.Helper()
	var l []api.Item
	for rule := -2; rule < 8; rule++ {
		for dot := -1; dot < 4; dot++ {
			x := api.Item{Rule: rule, Dot: dot}
			l = append(l, x)
			if sym, ok := auto.Next(g, x); auto.Has(g, x) || sym != 0 || ok {
				t.Fatalf("%v: %v: %d %v", g, x, sym, ok)
			}
		}
	}
	for _, l := range [][]api.Item{nil, {}, {{Rule: -1}}, {{Rule: 0}}, {{Rule: 0, Dot: 1}}, l} {
		if all := auto.Closure(g, l); len(all) != 0 {
			t.Fatalf("%v: %v: %v", g, l, all)
		}
	}
	if a, e := auto.Build(g); len(a) != 0 || e != api.ErrArg {
		t.Fatalf("%v: %v %v", g, a, e)
	}
}

// itemText is an item as a text: its rule and its Dot.
func itemText(x api.Item) string {
	return strconv.Itoa(x.Rule) + "." + strconv.Itoa(x.Dot)
}

// itemsText are items as a text.
func itemsText(l []api.Item) string {
	var texts []string
	for _, x := range l {
		texts = append(texts, itemText(x))
	}
	return strings.Join(texts, " ")
}

// stateText is a state as a text: its kernel, and behind a bar its edges.
func stateText(g api.Grammar, s api.State) string {
	text := itemsText(s.Kernel)
	if len(s.Edges) > 0 {
		text += " |"
	}
	for _, x := range s.Edges {
		text += " " + specimen.NameOf(g, x.Sym) + ">" + strconv.Itoa(x.To)
	}
	return text
}

// isTold holds grammars' automata, and the model's, to what is told: a text for each state.
func isTold(t *testing.T, told map[string][]string) {
	t.Helper()
	specimen.IsTold(t, told, func(g api.Grammar) []api.State { return isBuilt(t, modelOf(g)) }, stateText)
}

// P15.1, P15.2: told automata: edges by terminals ahead of those by nonterminals, kernels of several items, states that are come to from several.
func TestTold(t *testing.T) {
	isTold(t, map[string][]string{
		// The chapter's example.
		"%% s : 'a' s | ;": {"-1.0 | 'a'>1 s>2", "0.1 | 'a'>1 s>3", "-1.1", "0.2"},
		// No symbols; a terminal; the start alone; rules that are alike.
		"%% s : ;":               {"-1.0 | s>1", "-1.1"},
		"%% s : 'a' ;":           {"-1.0 | 'a'>1 s>2", "0.1", "-1.1"},
		"%% s : s | 'a' ;":       {"-1.0 | 'a'>1 s>2", "1.1", "-1.1 0.1"},
		"%% s : 'a' | 'a' | | ;": {"-1.0 | 'a'>1 s>2", "0.1 1.1", "-1.1"},
		// A rule twice in one kernel; an edge that leads back at once.
		"%% s : s s | 'a' ;":           {"-1.0 | 'a'>1 s>2", "1.1", "-1.1 0.1 | 'a'>1 s>3", "0.1 0.2 | 'a'>1 s>3"},
		"%% s : 'a' 'a' s 'a' | 'b' ;": {"-1.0 | 'a'>1 'b'>2 s>3", "0.1 | 'a'>4", "1.1", "-1.1", "0.2 | 'a'>1 'b'>2 s>5", "0.3 | 'a'>6", "0.4"},
		// Terminals ahead of nonterminals, each by their numbers, wherever they stand in rules.
		"%% s : t 'b' | u 'a' | 'b' | 'a' ; t : ; u : ;":                        {"-1.0 | 'b'>1 'a'>2 s>3 t>4 u>5", "2.1", "3.1", "-1.1", "0.1 | 'b'>6", "1.1 | 'a'>7", "0.2", "1.2"},
		"%% s : u t | 'a' ; t : s ; u : ;":                                      {"-1.0 | 'a'>1 s>2 u>3", "1.1", "-1.1", "0.1 | 'a'>1 s>4 t>5 u>3", "2.1", "0.2"},
		"%token C B A %% s : 'x' v u t | A | B | C ; t : ; u : ; v : u t | t ;": {"-1.0 | C>1 B>2 A>3 'x'>4 s>5", "3.1", "2.1", "1.1", "0.1 | t>6 u>7 v>8", "-1.1", "7.1", "6.1 | t>9", "0.2 | u>10", "6.2", "0.3 | t>11", "0.4"},
		// Rules without symbols, at the beginning, within, and at the end.
		"%% s : n s n 'a' | 'b' ; n : ;": {"-1.0 | 'b'>1 s>2 n>3", "1.1", "-1.1", "0.1 | 'b'>1 s>4 n>3", "0.2 | n>5", "0.3 | 'a'>6", "0.4"},
		"%% s : n n n ; n : | 'a' ;":     {"-1.0 | 'a'>1 s>2 n>3", "2.1", "-1.1", "0.1 | 'a'>1 n>4", "0.2 | 'a'>1 n>5", "0.3"},
		// The same item in kernels alone, and with another one.
		"%% s : 'x' a 'p' | 'y' a 'q' | 'y' b ; a : 'z' ; b : 'z' ;": {"-1.0 | 'x'>1 'y'>2 s>3", "0.1 | 'z'>4 a>5", "1.1 2.1 | 'z'>6 a>7 b>8", "-1.1", "3.1", "0.2 | 'p'>9", "3.1 4.1", "1.2 | 'q'>10", "2.2", "0.3", "1.3"},
		"%% e : e '+' t | t ; t : t '*' f | f ; f : '(' e ')' | 'n' ;": {
			"-1.0 | '('>1 'n'>2 e>3 t>4 f>5",
			"4.1 | '('>1 'n'>2 e>6 t>4 f>5",
			"5.1",
			"-1.1 0.1 | '+'>7",
			"1.1 2.1 | '*'>8",
			"3.1",
			"0.1 4.2 | '+'>7 ')'>9",
			"0.2 | '('>1 'n'>2 t>10 f>5",
			"2.2 | '('>1 'n'>2 f>11",
			"4.3",
			"0.3 2.1 | '*'>8",
			"2.3",
		},
	})
}

// P15.1, P15.2: told automata of a start that isn't the first nonterminal, of terminals that no rule has, of levels and %prec, which count for nothing, and of rules of two digits.
func TestToldStarts(t *testing.T) {
	isTold(t, map[string][]string{
		"%start t %% s : 'a' ; t : s 'b' | s ;":                                                          {"-1.0 | 'a'>1 s>2 t>3", "0.1", "1.1 2.1 | 'b'>4", "-1.1", "1.2"},
		"%start t %% s : t 'a' | 'b' ; t : s ;":                                                          {"-1.0 | 'b'>1 s>2 t>3", "1.1", "2.1", "-1.1 0.1 | 'a'>4", "0.2"},
		"%start s %% s : t 'a' | 'b' ; t : s ;":                                                          {"-1.0 | 'b'>1 s>2 t>3", "1.1", "-1.1 2.1", "0.1 | 'a'>4", "0.2"},
		"%start u %% s : u ; t : s ; u : 'a' t | ;":                                                      {"-1.0 | 'a'>1 u>2", "2.1 | 'a'>1 s>3 t>4 u>5", "-1.1", "1.1", "2.2", "0.1"},
		"%token U %left '+' %nonassoc 'n' %% e : e '+' e %prec 'n' | 'n' ;":                              {"-1.0 | 'n'>1 e>2", "1.1", "-1.1 0.1 | '+'>3", "0.2 | 'n'>1 e>4", "0.1 0.3 | '+'>3"},
		"%% s : 'a' s | error s | 'a' | 'a' | 'a' | 'a' | 'a' | 'a' | 'a' | 'a' | 'a' 'b' | 'a' | 'a' ;": {"-1.0 | 'a'>1 error>2 s>3", "0.1 2.1 3.1 4.1 5.1 6.1 7.1 8.1 9.1 10.1 11.1 12.1 | 'a'>1 error>2 'b'>4 s>5", "1.1 | 'a'>1 error>2 s>6", "-1.1", "10.2", "0.2", "1.2"},
	})
}

// P15.1: a grammar that may be and isn't reduced has items, and no automaton: ErrArg. Reduced, it has one, if its start is productive.
func TestNotReduced(t *testing.T) {
	for _, text := range specimen.NotReduced() {
		g := specimen.Read(t, text)
		m := modelOf(g)
		for _, x := range items(g) {
			isItem(t, m, x)
		}
		isClosed(t, m, items(g))
		for _, p := range m.places {
			isClosed(t, m, []api.Item{p.item})
		}
		isBuilt(t, m)
		if a, e := auto.Build(g); len(a) != 0 || e != api.ErrArg {
			t.Errorf("%q: %v %v", text, a, e)
		}
		h, _, e := trim.Reduce(g)
		if e != api.OK {
			continue
		}
		if isBuilt(t, modelOf(h)); cfg.Same(g, h) {
			t.Errorf("%q is reduced", text)
		}
	}
}

// P15.1: a grammar that may not be, in each way, has no items, whichever are asked for, and no automaton.
func TestMayNotBe(t *testing.T) {
	m := modelOf(specimen.Usable())
	if isBuilt(t, m); m.err != api.OK {
		t.Fatal(m)
	}
	for _, g := range specimen.Wrong() {
		isNothing(t, g)
	}
}

// P15.1: told items, and the symbols behind their places, of all rules, of the start's, and of such as there aren't.
func TestItems(t *testing.T) {
	g := specimen.Read(t, "%start t %% s : t 'a' s | ; t : 'b' | s 'c' ;")
	m := modelOf(g)
	for _, x := range []struct {
		rule int
		syms string
	}{{-1, "t"}, {0, "t 'a' s"}, {1, ""}, {2, "'b'"}, {3, "s 'c'"}} {
		syms := strings.Fields(x.syms)
		for _, dot := range append(specimen.Far(), -2, -1, 0, 1, 2, 3, 4, 5) {
			item := api.Item{Rule: x.rule, Dot: dot}
			isItem(t, m, item)
			sym, ok := auto.Next(g, item)
			if has := dot >= 0 && dot <= len(syms); auto.Has(g, item) != has {
				t.Error(item, !has)
			}
			if want := dot >= 0 && dot < len(syms); ok != want || ok && specimen.NameOf(g, sym) != syms[dot] || !ok && sym != 0 {
				t.Error(item, sym, ok)
			}
		}
	}
	for _, rule := range append(specimen.Far(), -4, -3, -2, 4, 5, 6) {
		for dot := -1; dot < 5; dot++ {
			item := api.Item{Rule: rule, Dot: dot}
			if sym, ok := auto.Next(g, item); auto.Has(g, item) || ok || sym != 0 {
				t.Error(item, sym, ok)
			}
		}
	}
}

// P15.1: all items about those that there are, of the most rules, symbols, terminals and nonterminals that there may be, and of the fewest.
func TestAllItems(t *testing.T) {
	d := specimen.Drawer(15)
	l := []api.Grammar{specimen.Small(), specimen.Usable(), specimen.Read(t, "%% s : ;"), d.Grammar(24, 16, 40, 6), d.Grammar(0, 1, 40, 6), d.Grammar(24, 16, 16, 6)}
	for _, nons := range []int{1, 16} {
		g := api.Grammar{Terms: specimen.Termed(specimen.Numbered("T", 24)...), Nons: specimen.Numbered("e", nons), Start: nons - 1}
		for i := range 40 {
			g.Rules = append(g.Rules, specimen.Rule(min(i, nons-1), 23, -nons, 0, -1, 22, -nons))
		}
		l = append(l, g)
	}
	for _, g := range l {
		m := modelOf(g)
		for _, x := range items(g) {
			isItem(t, m, x)
		}
		isClosed(t, m, items(g))
	}
}

// P15.1: told closures: of none, of items that aren't there, of the same ones again, out of order; over nonterminals that lead back to themselves, and over others; at the end, and ahead of terminals.
func TestClosure(t *testing.T) {
	g := specimen.Read(t, "%start v %% s : t 'a' | 'b' t s | ; t : u t | u ; u : t 'c' | s ; v : 'd' s 'd' | v 'e' v ; w : w | x ; x : ;")
	m := modelOf(g)
	for _, x := range []struct {
		items []api.Item
		want  string
	}{
		{nil, ""},
		{[]api.Item{}, ""},
		// None that is there.
		{[]api.Item{{Rule: -1, Dot: 2}, {Rule: -1, Dot: -1}, {Rule: -2}, {Rule: 12}, {Rule: 0, Dot: -1}, {Rule: 0, Dot: 3}, {Rule: 2, Dot: 1}, {Rule: 11, Dot: 1}, {Rule: 12, Dot: 1}}, ""},
		// At the end, and ahead of terminals: nothing more.
		{[]api.Item{{Rule: -1, Dot: 1}}, "-1.1"},
		{[]api.Item{{Rule: 2}}, "2.0"},
		{[]api.Item{{Rule: 0, Dot: 2}}, "0.2"},
		{[]api.Item{{Rule: 0, Dot: 1}}, "0.1"},
		{[]api.Item{{Rule: 1}}, "1.0"},
		{[]api.Item{{Rule: 1, Dot: 3}, {Rule: 7, Dot: 2}, {Rule: 11}}, "1.3 7.2 11.0"},
		// Itself; the start; one over another; all of several that lead to one another.
		{[]api.Item{{Rule: 9}}, "9.0 10.0 11.0"},
		{[]api.Item{{Rule: 10}}, "10.0 11.0"},
		{[]api.Item{{Rule: -1}}, "-1.0 7.0 8.0"},
		{[]api.Item{{Rule: 8, Dot: 2}}, "7.0 8.0 8.2"},
		{[]api.Item{{Rule: 8}}, "7.0 8.0"},
		{[]api.Item{{Rule: 7, Dot: 1}}, "0.0 1.0 2.0 3.0 4.0 5.0 6.0 7.1"},
		{[]api.Item{{Rule: 1, Dot: 1}}, "0.0 1.0 1.1 2.0 3.0 4.0 5.0 6.0"},
		{[]api.Item{{Rule: 5}}, "0.0 1.0 2.0 3.0 4.0 5.0 6.0"},
		{[]api.Item{{Rule: 3, Dot: 1}}, "0.0 1.0 2.0 3.0 3.1 4.0 5.0 6.0"},
		// Again, out of order, and beside such as aren't there.
		{[]api.Item{{Rule: 2}, {Rule: 2}, {Rule: 2}}, "2.0"},
		{[]api.Item{{Rule: 11}, {Rule: 7, Dot: 3}, {Rule: 7, Dot: 2}, {Rule: 0, Dot: 2}, {Rule: 0, Dot: 1}, {Rule: -1, Dot: 1}}, "-1.1 0.1 0.2 7.2 7.3 11.0"},
		{[]api.Item{{Rule: 11}, {Rule: 9, Dot: 1}, {Rule: 11}, {Rule: 9}, {Rule: 9, Dot: 1}, {Rule: 10}}, "9.0 9.1 10.0 11.0"},
		{[]api.Item{{Rule: 12}, {Rule: 10}, {Rule: -2}, {Rule: 2, Dot: 1}, {Rule: 2}, {Rule: 2, Dot: -1}, {Rule: 99}}, "2.0 10.0 11.0"},
		{[]api.Item{{Rule: 9, Dot: -1}, {Rule: 9, Dot: 1}, {Rule: 9, Dot: 2}}, "9.1"},
		{[]api.Item{{Rule: 7, Dot: 3}, {Rule: -1}, {Rule: 7, Dot: 3}, {Rule: -1, Dot: 1}, {Rule: -1}}, "-1.0 -1.1 7.0 7.3 8.0"},
	} {
		if all := itemsText(isClosed(t, m, x.items)); all != x.want {
			t.Errorf("%v: %s, not %s", x.items, all, x.want)
		}
	}
}

// P15.1: very many items, of few that there are.
func TestVeryManyItems(t *testing.T) {
	g := specimen.Read(t, "%% s : t 'a' | t ; t : u ; u : 'u' | ;")
	for _, x := range []struct {
		items []api.Item
		want  string
	}{
		{[]api.Item{{Rule: 2}, {Rule: 0, Dot: 2}}, "0.2 2.0 3.0 4.0"},
		{[]api.Item{{Rule: -3}, {Rule: 0, Dot: 3}}, ""},
		{[]api.Item{{Rule: 1, Dot: 1}, {Rule: 5}, {Rule: 0}, {Rule: 1, Dot: math.MaxInt}}, "0.0 1.1 2.0 3.0 4.0"},
	} {
		if all := itemsText(auto.Closure(g, slices.Repeat(x.items, 1<<18))); all != x.want {
			t.Errorf("%v: %s", x.items, all)
		}
	}
	each := slices.Repeat([]api.Item{{Rule: -1}}, 1<<18)
	for i := range each {
		each[i].Rule += i
	}
	if all := itemsText(auto.Closure(g, each)); all != "-1.0 0.0 1.0 2.0 3.0 4.0" {
		t.Error(all)
	}
}
