package table_test

import (
	"slices"
	"strings"
	"testing"

	"gerund/api"
	"gerund/auto"
	"gerund/cfg"
	"gerund/specimen"
	"gerund/table"
)

// kindOf is the kind of a letter: r reduced, s shifted, n neither, d shifted for want of precedence.
func kindOf(letter byte) int {
	return strings.IndexByte(".rsnd", letter)
}

// isSettled holds how each of a grammar's rules and each shift are settled to what is told: a word for each rule, a letter for each terminal, the last one for the end.
func isSettled(t *testing.T, g api.Grammar, told string) {
	t.Helper()
	words := strings.Fields(told)
	if len(words) != len(g.Rules) {
		t.Fatalf("%v: %s", g, told)
	}
	for rule, word := range words {
		if len(word) != len(g.Terms)+1 {
			t.Fatalf("%v: %s", g, word)
		}
		for term := range len(word) {
			if kind := table.Settle(g, rule, term); kind != kindOf(word[term]) {
				t.Fatalf("%v: rule %d, %d: %d, not %c", g, rule, term, kind, word[term])
			}
		}
	}
}

// P17.1: told rules and shifts, in each way: the rule's level greater, lesser, the same with each way to associate; no level of the terminal, of the rule's Prec, no Prec; several terminals of a declaration, levels of several, and declarations that give none; the end.
func TestSettle(t *testing.T) {
	for text, told := range map[string]string{
		"%% s : ;":                               "d",
		"%% s : 'a' ;":                           "dd",
		"%left 'a' %% s : 'a' | ;":               "rd dd",
		"%right 'a' %% s : 'a' | ;":              "sd dd",
		"%nonassoc 'a' %% s : 'a' | ;":           "nd dd",
		"%token 'a' %% s : 'a' | %prec 'a' ;":    "dd dd",
		"%left 'a' %% s : 'a' | %prec 'a' | s ;": "rd rd dd",
		// The Prec of a rule is its last terminal, or what is told.
		"%left 'a' %left 'b' %% s : 'a' | 'b' | 'a' 'b' | 'b' s 'a' s | 'b' %prec 'a' | s ;":      "rsd rrd rrd rsd rsd ddd",
		"%right 'a' %right 'b' %% s : 'a' | 'b' | 'a' 'b' | 'b' s 'a' s | 'b' %prec 'a' | s ;":    "ssd rsd rsd ssd ssd ddd",
		"%nonassoc 'a' %left 'b' %% s : 'a' | 'b' | 'a' 'b' | 'b' s 'a' s | 'b' %prec 'a' | s ;":  "nsd rrd rrd nsd nsd ddd",
		"%left 'b' %nonassoc 'a' %% s : 'a' | 'b' | 'a' 'b' | 'b' s 'a' s | 'b' %prec 'a' | s ;":  "rnd rsd rsd rnd rnd ddd",
		"%token 'b' %nonassoc 'a' %% s : 'a' | 'b' | 'a' 'b' | 'b' s 'a' s | 'b' %prec 'a' | s ;": "dnd ddd ddd dnd dnd ddd",
		// Several terminals of one declaration, also such as a %token had ahead of it; one that is declared nowhere.
		"%left 'a' 'b' %right 'c' 'd' %% s : 'a' | 'b' | 'c' | 'd' ;":                        "rrssd rrssd rrssd rrssd",
		"%token 'd' 'c' %right 'a' 'c' %left 'b' 'd' %% s : 'a' | 'b' | 'c' | 'd' | 'e' ;":   "ssssdd rrrrdd ssssdd rrrrdd dddddd",
		"%left 'a' %token 'x' %left 'b' %right 'c' %nonassoc 'd' %% s : 'b' | 'c' | 'x' ;":   "rdrssd rdrssd dddddd",
		"%nonassoc 'd' 'a' %start s %right 'c' %left 'b' %% s : 'a' | 'b' 'e' | 'b' | 'c' ;": "nnssdd dddddd rrrrdd rrssdd",
	} {
		isSettled(t, specimen.Read(t, text), told)
	}
}

// isAbout holds how rules and shifts are settled, of all about those that a grammar has, and far away, to what they must be.
func isAbout(t *testing.T, g api.Grammar) {
	t.Helper()
	for rule := -3; rule < len(g.Rules)+4; rule++ {
		for term := -3; term < len(g.Terms)+5; term++ {
			isAsked(t, g, rule, term)
		}
		for _, far := range specimen.Far() {
			isAsked(t, g, rule, far)
		}
	}
	for _, far := range specimen.Far() {
		for term := -3; term < len(g.Terms)+5; term++ {
			isAsked(t, g, far, term)
		}
	}
}

// isAsked holds how one rule and one shift are settled to what they must be.
func isAsked(t *testing.T, g api.Grammar, rule, term int) {
	t.Helper()
	want := 0
	if cfg.Right(g) && rule >= 0 && rule < len(g.Rules) && term >= 0 && term <= len(g.Terms) {
		want = settled(g, rule, term)
	}
	if kind := table.Settle(g, rule, term); kind != want {
		t.Fatalf("%v: rule %d, %d: %d, not %d", g, rule, term, kind, want)
	}
}

// P17.1: rules and terminals that there aren't: below the first one, just behind the last one, and far away; the end's number, and one more.
func TestSettleAbout(t *testing.T) {
	g := specimen.Read(t, "%left 'a' %right 'b' %% s : 'a' s 'b' | %prec 'a' | s ;")
	for _, x := range []struct{ rule, term, want int }{
		{0, 0, api.ByReduce}, {0, 1, api.ByShift}, {0, 2, api.ByDefault}, {0, 3, 0}, {0, 4, 0}, {0, -1, 0}, {0, -2, 0},
		{1, 0, api.ByReduce}, {1, 1, api.ByShift}, {2, 0, api.ByDefault}, {2, 2, api.ByDefault}, {2, 3, 0}, {2, -1, 0},
		{3, 0, 0}, {3, 2, 0}, {4, 1, 0}, {-1, 0, 0}, {-1, 2, 0}, {-2, 1, 0}, {-1, -1, 0}, {3, 3, 0},
	} {
		if kind := table.Settle(g, x.rule, x.term); kind != x.want {
			t.Errorf("%d, %d: %d, not %d", x.rule, x.term, kind, x.want)
		}
	}
	isAbout(t, g)
}

// P17.1: all ways in which three levels associate, each of one terminal or two, of rules of each of these, of one without a level, and of none.
func TestSettleLevels(t *testing.T) {
	ways, kinds := make([]int, 3), map[int]int{}
	for more := true; more; more = specimen.Count(ways, 3) {
		for _, levels := range [][]int{{0, 1, 1, 2, 3}, {3, 2, 0, 1, 1}, {2, 3, 1, 0, 3}} {
			g := api.Grammar{Terms: specimen.Termed(specimen.Numbered("T", len(levels))...), Nons: []string{"s"}, Rules: []api.Rule{specimen.Rule(0)}}
			for term, level := range levels {
				if level > 0 {
					g.Terms[term].Level, g.Terms[term].Assoc = level, 1+ways[level-1]
				}
				g.Rules = append(g.Rules, api.Rule{Right: []int{0}, Prec: term})
			}
			isAbout(t, g)
			for rule := range g.Rules {
				for term := range g.Terms {
					kinds[table.Settle(g, rule, term)]++
				}
			}
		}
	}
	if len(kinds) != 4 || kinds[0] > 0 {
		t.Error(kinds)
	}
}

// P17.1: grammars that may not be, in each way, settle nothing; such as aren't reduced, and such as have too many states, do.
func TestSettleOthers(t *testing.T) {
	for _, g := range specimen.Wrong() {
		for rule := -1; rule < 42; rule++ {
			for term := -1; term < 27; term++ {
				if kind := table.Settle(g, rule, term); kind != 0 {
					t.Fatal(g, rule, term, kind)
				}
			}
		}
	}
	l, _ := specimen.Unreduced(t)
	for _, g := range append(l, specimen.Usable(), specimen.Remembering(specimen.Rising(16))) {
		if isAbout(t, g); table.Settle(g, 0, 0) == 0 {
			t.Error(g)
		}
	}
}

// P17.1: drawn grammars of up to 24 terminals, of up to as many levels.
func TestSettleDrawn(t *testing.T) {
	d, kinds := specimen.Drawer(171), map[int]int{}
	for range 200 {
		nons := 1 + d.Below(4)
		g := d.Grammar(d.Below(25), nons, nons+d.Below(30), d.Below(7))
		isAbout(t, g)
		for rule := range g.Rules {
			for term := range len(g.Terms) + 1 {
				kinds[table.Settle(g, rule, term)]++
			}
		}
	}
	if len(kinds) != 4 || min(kinds[api.ByReduce], kinds[api.ByShift], kinds[api.ByNone], kinds[api.ByDefault]) < 500 {
		t.Error(kinds)
	}
}

// P17.1: how a table settles a rule and a shift, of two operators: a letter for each of the rules and terminals + +, + *, * + and * *; by what is declared, and the %prec of the rule of +.
func TestSettledCells(t *testing.T) {
	for _, x := range []struct{ decls, prec, told string }{
		{"", "", "dddd"},
		{"%left '+' '*'", "", "rrrr"},
		{"%right '+' '*'", "", "ssss"},
		{"%nonassoc '+' '*'", "", "nnnn"},
		{"%left '+' %left '*'", "", "rsrr"},
		{"%left '*' %left '+'", "", "rrsr"},
		{"%right '+' %right '*'", "", "ssrs"},
		{"%nonassoc '+' %nonassoc '*'", "", "nsrn"},
		{"%left '+' %right '*'", "", "rsrs"},
		{"%right '+' %left '*'", "", "ssrr"},
		{"%nonassoc '*' %left '+'", "", "rrsn"},
		{"%left '+'", "", "rddd"},
		{"%right '*'", "", "ddds"},
		{"%token '+' %nonassoc '*'", "", "dddn"},
		{"%left '+' %left '*' %left 'h'", "%prec 'h'", "rrrr"},
		{"%left 'h' %right '+' %left '*'", "%prec 'h'", "ssrr"},
		{"%left '+' %right 'h' %left '*'", "%prec 'h'", "rsrr"},
		{"%left '+' 'h' %right '*'", "%prec 'h'", "rsrs"},
		{"%right '+' '*' 'h'", "%prec 'h'", "ssss"},
		{"%nonassoc 'h' '+' %right '*'", "%prec 'h'", "nsrs"},
		{"%left '+' %left '*' %token 'h'", "%prec 'h'", "ddrr"},
		{"%left '+' %right '*'", "%prec '*'", "rsrs"},
		{"%left '*' %right '+'", "%prec '*'", "srsr"},
	} {
		g := specimen.Read(t, x.decls+" %% e : e '+' e "+x.prec+" | e '*' e | 'n' ;")
		m := modelOf(g)
		u, c := isBuilt(t, m)
		if len(c) != 4 {
			t.Errorf("%v: %v", x, c)
		}
		for i := range 4 {
			rule := i / 2
			e, op := -1, [2]int{g.Rules[0].Right[1], g.Rules[1].Right[1]}
			at, _ := auto.Walk(m.states, 0, []int{e, op[rule], e})
			term := op[i%2]
			to, _ := auto.Walk(m.states, at, []int{term})
			kind := kindOf(x.told[i])
			want := []api.Cell{api.ByReduce: {Kind: api.ActReduce, N: rule}, api.ByShift: {Kind: api.ActShift, N: to}, api.ByNone: {}, api.ByDefault: {Kind: api.ActShift, N: to}}[kind]
			if u.Actions[at][term] != want || !slices.Contains(c, api.Conflict{State: at, Term: term, Kind: kind, Rule: rule, Other: -1}) {
				t.Errorf("%v: %d: %v %v", x, i, u.Actions[at][term], c)
			}
		}
	}
}
