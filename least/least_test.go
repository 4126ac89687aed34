package least_test

import (
	"math"
	"slices"
	"strconv"
	"strings"
	"testing"

	"gerund/api"
	"gerund/cfg"
	"gerund/least"
	"gerund/specimen"
	"gerund/trim"
)

// isLeast holds what the calls answer of a grammar to what they must, by the model; and to the chapter's words.
func isLeast(t *testing.T, g api.Grammar, m model) {
	t.Helper()
	heights, rules := least.Heights(g), least.Rules(g)
	if !slices.Equal(heights, m.heights) || !slices.Equal(rules, m.rules) {
		t.Fatalf("%v: %v %v, not %v %v", g, heights, rules, m.heights, m.rules)
	}
	isLow(t, g)
	var all []int
	for n := range g.Nons {
		isTree(t, g, m, n)
		isWord(t, g, m, []int{-1 - n})
		all = append(all, -1-n)
	}
	for _, n := range []int{-1, len(g.Nons)} {
		isTree(t, g, m, n)
	}
	isWord(t, g, m, all)
	isWord(t, g, m, nil)
	for _, r := range g.Rules {
		isWord(t, g, m, r.Right)
	}
}

// isLow holds a grammar's heights to being made less by no rule, and its least rules to being the first that make them, by what is less high.
func isLow(t *testing.T, g api.Grammar) {
	t.Helper()
	heights, rules, productive := least.Heights(g), least.Rules(g), trim.Productive(g)
	for n := range g.Nons {
		if productive[n] != (heights[n] > 0) || productive[n] != (rules[n] >= 0) || heights[n] < 0 || rules[n] < -1 {
			t.Fatalf("%v: %d: %v %v", g, n, heights, rules)
		}
		if productive[n] && g.Rules[rules[n]].Left != n {
			t.Fatalf("%v: %d: %v is another one's", g, n, rules)
		}
	}
	for i, r := range g.Rules {
		most, ends := greatest(productive, heights, r.Right)
		if !ends {
			continue
		}
		if most+1 < heights[r.Left] || i < rules[r.Left] && most+1 == heights[r.Left] || i == rules[r.Left] && most+1 != heights[r.Left] {
			t.Fatalf("%v: rule %d: %v %v", g, i, heights, rules)
		}
	}
	if !keeps(g, heights) {
		t.Fatalf("%v: %v", g, heights)
	}
}

// isTree holds a nonterminal's least tree to what it must be: one of that nonterminal, of its height, and of least rules alone.
func isTree(t *testing.T, g api.Grammar, m model, n int) {
	t.Helper()
	l, e := least.Tree(g, n)
	want, err := m.tree(n)
	if e != err || !slices.Equal(l, want) || e != api.OK && len(l) > 0 {
		t.Fatalf("%v: %d: %v %v, not %v %v", g, n, l, e, want, err)
	}
	if e != api.OK {
		return
	}
	height, word, rest, ok := taken(g, l, n)
	if !ok || len(rest) > 0 || height != m.heights[n] {
		t.Fatalf("%v: %d: %v: no tree of height %d", g, n, l, height)
	}
	for _, i := range l {
		if i != m.rules[g.Rules[i].Left] {
			t.Fatalf("%v: %d: %v: rule %d", g, n, l, i)
		}
	}
	if w, e := least.Word(g, []int{-1 - n}); len(word) <= 60 && (e != api.OK || !slices.Equal(w, word)) || len(word) > 60 && e != api.ErrBudget {
		t.Fatalf("%v: %d: %v %v, not %v", g, n, w, e, word)
	}
}

// isWord holds the least sentence of symbols to what it must be.
func isWord(t *testing.T, g api.Grammar, m model, syms []int) {
	t.Helper()
	l, e := least.Word(g, syms)
	want, err := m.word(syms)
	if e != err || !slices.Equal(l, want) || e != api.OK && len(l) > 0 {
		t.Fatalf("%v: %v: %v %v, not %v %v", g, syms, l, e, want, err)
	}
}

// isNothing holds the calls of a grammar that may not be to no answers, whatever is asked.
func isNothing(t *testing.T, g api.Grammar) {
	t.Helper()
	if a, b := least.Heights(g), least.Rules(g); len(a)+len(b) != 0 {
		t.Fatalf("%v: %v %v", g, a, b)
	}
	for n := -2; n <= 20; n++ {
		if l, e := least.Tree(g, n); len(l) != 0 || e != api.ErrArg {
			t.Fatalf("%v: %d: %v %v", g, n, l, e)
		}
	}
	for _, syms := range [][]int{nil, {}, {0}, {-1}, {-2}, {-2, -1}, {0, 1, 2}, {99}, {-99}, slices.Repeat([]int{0}, 61), slices.Repeat([]int{-2}, 301)} {
		if l, e := least.Word(g, syms); len(l) != 0 || e != api.ErrArg {
			t.Fatalf("%v: %v: %v %v", g, syms, l, e)
		}
	}
}

// numbersOf are those of a text.
func numbersOf(t *testing.T, text string) []int {
	t.Helper()
	var l []int
	for _, s := range strings.Fields(text) {
		n, err := strconv.Atoi(s)
		if err != nil {
			t.Fatal(err)
		}
		l = append(l, n)
	}
	return l
}

// lettersOf are the terminals of a word, each a literal of one letter.
func lettersOf(t *testing.T, g api.Grammar, word []int) string {
	t.Helper()
	text := ""
	for _, term := range word {
		if term < 0 || term >= len(g.Terms) {
			t.Fatalf("%v: %v", g, word)
		}
		text += strings.Trim(g.Terms[term].Name, "'")
	}
	return text
}

// symsOf are the symbols of names.
func symsOf(t *testing.T, g api.Grammar, names string) []int {
	t.Helper()
	var l []int
	for _, s := range strings.Fields(names) {
		sym, ok := cfg.Find(g, s)
		if !ok {
			t.Fatalf("%v: no %s", g, s)
		}
		l = append(l, sym)
	}
	return l
}

// told is a grammar's text, and what is told of its nonterminals: heights, least rules, and, parted by bars, trees and words; ! is one that isn't productive.
type told struct{ text, heights, rules, trees, words string }

// isTold holds grammars, and the model too, to what is told.
func isTold(t *testing.T, l []told) {
	t.Helper()
	for _, x := range l {
		g := specimen.Read(t, x.text)
		m := modelOf(g)
		if !slices.Equal(m.heights, numbersOf(t, x.heights)) || !slices.Equal(m.rules, numbersOf(t, x.rules)) {
			t.Errorf("%q: the model: %v", x.text, m)
		}
		isLeast(t, g, m)
		isOnly(t, g, m.heights)
		trees, words := strings.Split(x.trees, "|"), strings.Split(x.words, "|")
		for n := range g.Nons {
			l, e := least.Tree(g, n)
			w, f := least.Word(g, []int{-1 - n})
			if trees[n] == "!" {
				if e != api.ErrEmpty || f != api.ErrEmpty {
					t.Errorf("%q: %d: %v %v", x.text, n, e, f)
				}
			} else if e != api.OK || f != api.OK || !slices.Equal(l, numbersOf(t, trees[n])) || lettersOf(t, g, w) != words[n] {
				t.Errorf("%q: %d: %v %v %v %v", x.text, n, l, e, w, f)
			}
		}
	}
}

// isOnly holds heights of up to three nonterminals to being the only ones, of all that may be, that keep to the chapter's words.
func isOnly(t *testing.T, g api.Grammar, heights []int) {
	t.Helper()
	if len(g.Nons) > 3 {
		return
	}
	digits := make([]int, len(g.Nons))
	for more := true; more; more = specimen.Count(digits, len(g.Nons)+3) {
		if keeps(g, digits) != slices.Equal(digits, heights) {
			t.Fatalf("%v: %v", g, digits)
		}
	}
}

// P14.1, P14.2: told least rules: of one height the first one, of several the least one.
func TestTold(t *testing.T) {
	isTold(t, []told{
		// The chapter's example.
		{"%% s : s 'a' | t ; t : 'b' ;", "2 1", "1 2", "1 2|2", "b|b"},
		// No symbols, and terminals alone.
		{"%% s : ;", "1", "0", "0", ""},
		{"%% s : 'a' ;", "1", "0", "0", "a"},
		{"%% s : 'a' 'b' 'a' 'c' 'b' 'a' ;", "1", "0", "0", "abacba"},
		// Several rules of the height, of which the first counts, whatever they have.
		{"%% s : | | ;", "1", "0", "0", ""},
		{"%% s : 'a' 'b' | 'c' | ;", "1", "0", "0", "ab"},
		{"%% s : | 'a' ;", "1", "0", "0", ""},
		{"%% s : t t t 'x' | t | u ; t : 'c' 'd' | ; u : ;", "2 1 1", "0 3 5", "0 3 3 3|3|5", "cdcdcdx|cd|"},
		{"%% s : u | t ; t : 'c' ; u : 'd' ;", "2 1 1", "0 2 3", "0 3|2|3", "d|c|d"},
		{"%% s : t ; t : 'a' ; s : t 'b' ; t : 'c' ;", "2 1", "0 1", "0 1|1", "a|a"},
		// A first rule that is higher, and a last one that is less high.
		{"%% s : t | 'a' 'b' ; t : 'c' ;", "1 1", "1 2", "1|2", "ab|c"},
		{"%% s : t | v ; t : v ; v : 'a' ;", "2 2 1", "1 2 3", "1 3|2 3|3", "a|a|a"},
		{"%% s : t | v | w | ; t : v ; v : w ; w : 'a' ;", "1 3 2 1", "3 4 5 6", "3|4 5 6|5 6|6", "|a|a|a"},
		{"%% s : t v w | v w | w w 'x' | w ; t : v ; v : w ; w : 'a' ;", "2 3 2 1", "2 4 5 6", "2 6 6|4 5 6|5 6|6", "aax|a|a|a"},
		// The greatest height in the Right counts, wherever it stands, not how many there are.
		{"%% s : a b | b b b ; a : 'x' ; b : a ;", "3 1 2", "0 2 3", "0 2 3 2|2|3 2", "xx|x|x"},
		{"%% s : b a | a b ; a : 'x' ; b : a 'y' ;", "3 1 2", "0 2 3", "0 3 2 2|2|3 2", "xyx|x|xy"},
		{"%% s : 'z' b | a 'z' a a a a ; a : 'x' ; b : a ;", "2 1 2", "1 2 3", "1 2 2 2 2 2|2|3 2", "xzxxxx|x|x"},
		{"%% s : a b a | b ; a : ; b : a a a a a a ;", "3 1 2", "0 2 3", "0 2 3 2 2 2 2 2 2 2|2|3 2 2 2 2 2 2", "||"},
		// Trees within trees, in order.
		{"%% s : a 'x' b ; a : b b ; b : 'y' | a ;", "3 2 1", "0 1 2", "0 1 2 2 2|1 2 2|2", "yyxy|yy|y"},
		{"%% s : a b 'z' a ; a : b 'y' c ; b : c c ; c : 'x' | s ;", "4 3 2 1", "0 1 2 3", "0 1 2 3 3 3 2 3 3 1 2 3 3 3|1 2 3 3 3|2 3 3|3", "xxyxxxzxxyx|xxyx|xx|x"},
	})
}

// P14.1, P14.2: told grammars of nonterminals that use themselves, that aren't productive, or not reachable; and starts.
func TestToldUse(t *testing.T) {
	isTold(t, []told{
		// Those that use themselves, at once or by others.
		{"%% s : s | 'a' ;", "1", "1", "1", "a"},
		{"%% s : s s | s 'a' | 'b' | s ;", "1", "2", "2", "b"},
		{"%% s : 'a' s | ;", "1", "1", "1", ""},
		{"%% s : t ; t : s | v ; v : t 'a' | 'b' ;", "3 2 1", "0 2 4", "0 2 4|2 4|4", "b|b|b"},
		{"%% s : t s | t ; t : s t | 'a' ;", "2 1", "1 3", "1 3|3", "a|a"},
		{"%% s : t t ; t : v ; v : s | t | v | 'a' v | ;", "3 2 1", "0 1 6", "0 1 6 1 6|1 6|6", "||"},
		// Not productive: no rule that holds such a one counts, though all else in it is low, or nothing.
		{"%% s : s ;", "0", "-1", "!", ""},
		{"%% s : s 'a' | 'b' s | s s ;", "0", "-1", "!", ""},
		{"%% s : t ; t : s ;", "0 0", "-1 -1", "!|!", "|"},
		{"%% s : u | t ; t : v ; v : 'a' ; u : u ;", "3 2 1 0", "1 2 3 -1", "1 2 3|2 3|3|!", "a|a|a|"},
		{"%% s : u 'a' | 'a' u | v u v | t ; t : v ; v : ; u : 'b' u | u ;", "3 2 1 0", "3 4 5 -1", "3 4 5|4 5|5|!", "|||"},
		{"%% s : 'a' t ; t : u t | s u | v ; u : w ; w : u | s u ; v : 'b' v u | 'c' ;", "3 2 0 0 1", "0 3 -1 -1 8", "0 3 8|3 8|!|!|8", "ac|c|||c"},
		{"%% s : u ; u : u ; t : 'a' ;", "0 0 1", "-1 -1 2", "!|!|2", "||a"},
		{"%% s : u t ; t : 'a' | s ; u : u t ;", "0 1 0", "-1 1 -1", "!|1|!", "|a|"},
		// Not reachable: of them all is told, and they count for others that aren't.
		{"%% s : 'a' ; t : s s ; v : v | t | t 'b' ;", "1 2 3", "0 1 3", "0|1 0 0|3 1 0 0", "a|aa|aa"},
		{"%% s : 'a' | u ; u : u v ; v : v | s ;", "1 0 2", "0 -1 4", "0|!|4 0", "a||a"},
		// The start is the first one, or another one, and tells nothing.
		{"%start s %% s : t ; t : v 'a' | 'b' v ; v : ;", "3 2 1", "0 1 3", "0 1 3|1 3|3", "a|a|"},
		{"%start t %% s : t ; t : v 'a' | 'b' v ; v : ;", "3 2 1", "0 1 3", "0 1 3|1 3|3", "a|a|"},
		{"%start v %% s : t ; t : v 'a' | 'b' v ; v : ;", "3 2 1", "0 1 3", "0 1 3|1 3|3", "a|a|"},
		{"%start u %% s : t ; t : 'a' ; u : u ;", "2 1 0", "0 1 -1", "0 1|1|!", "a|a|"},
		// Terminals that no rule has, levels, and what a rule has by %prec, count for nothing.
		{"%token 'c' %left 'a' %right 'b' %nonassoc 'd' %% s : t 'a' | 'b' t %prec 'd' ; t : 'd' %prec 'c' | ;", "2 1", "0 2", "0 2|2", "da|d"},
		{"%% s : error t | error ; t : ;", "1 1", "1 2", "1|2", "error|"},
	})
}

// P14.1: told sentences of symbols: none, terminals alone, nonterminals alone, both.
func TestToldWords(t *testing.T) {
	g := specimen.Read(t, "%% s : t 'a' t ; t : 'b' 'c' | s ; n : ; u : u 'd' ; v : n t | u ;")
	for _, x := range []struct {
		syms, word string
		err        api.Errno
	}{
		{"", "", api.OK},
		{"'a'", "a", api.OK},
		{"'d'", "d", api.OK},
		{"'d' 'a' 'a' 'd' 'c'", "daadc", api.OK},
		{"s", "bcabc", api.OK},
		{"t", "bc", api.OK},
		{"n", "", api.OK},
		{"v", "bc", api.OK},
		{"n n n n n n n n", "", api.OK},
		{"t s n v", "bcbcabcbc", api.OK},
		{"t 'd' n t", "bcdbc", api.OK},
		{"'a' s 'b' n 'c'", "abcabcbc", api.OK},
		{"n 'c' n 'b' n", "cb", api.OK},
		{"v 'a' 'a' v 'd'", "bcaabcd", api.OK},
		{"u", "", api.ErrEmpty},
		{"'a' u", "", api.ErrEmpty},
		{"u 'a'", "", api.ErrEmpty},
		{"s n u t 'a'", "", api.ErrEmpty},
		{"u u u", "", api.ErrEmpty},
		{"n n n n u", "", api.ErrEmpty},
	} {
		syms := symsOf(t, g, x.syms)
		isWord(t, g, modelOf(g), syms)
		w, e := least.Word(g, syms)
		if e != x.err || lettersOf(t, g, w) != x.word {
			t.Errorf("%s: %v %v", x.syms, w, e)
		}
	}
}

// P14.1: of Tree numbers that no nonterminal has: ErrArg, also of a grammar none of which is productive, or all of whose trees are too great.
func TestNoNonterminal(t *testing.T) {
	one, never, great := specimen.Read(t, "%% s : ;"), specimen.Read(t, "%% s : s ; t : t s ;"), steep(16, 0)
	for _, g := range []api.Grammar{one, never, great, specimen.Small(), specimen.Read(t, "%token A B C D %% s : A ;")} {
		n := len(g.Nons)
		for _, at := range []int{-1, -2, -n, -n - 1, -16, -17, n, n + 1, 2 * n, n + 15, 99, 1 << 31, 1 << 32, 1<<32 + n - 1, -1 << 32, math.MaxInt, math.MaxInt - 1, math.MinInt, math.MinInt + 1} {
			if at >= 0 && at < n {
				continue
			}
			if l, e := least.Tree(g, at); len(l) != 0 || e != api.ErrArg {
				t.Errorf("%v: %d: %v %v", g, at, l, e)
			}
		}
		for at := range n {
			if _, e := least.Tree(g, at); e == api.ErrArg {
				t.Errorf("%v: %d: %v", g, at, e)
			}
		}
	}
}

// P14.1: symbols that aren't there, on either side, are ErrArg at whatever place, also beside such as aren't productive, or too many; and these are ErrEmpty beside too many.
func TestReasons(t *testing.T) {
	g := specimen.Read(t, "%% s : t 'a' ; t : 'b' | s ; n : ; u : u 'a' ;")
	there := [][]int{nil, {0}, {1}, {-1}, {-2, -3}, {-4}, {-4, 0}, {1, -4}, {0, -1, -4}, slices.Repeat([]int{0}, 60), slices.Repeat([]int{1}, 61), slices.Repeat([]int{-3}, 300), slices.Repeat([]int{-3}, 301), slices.Repeat([]int{-1}, 400)}
	absent := []int{2, 3, 4, 5, 23, 24, 25, 31, 32, 63, 64, -5, -6, -16, -17, -18, -32, -33, -64, -65, 1 << 32, 1<<32 + 1, 1<<32 - 1, 1<<32 - 2, -1 << 32, -1<<32 + 1, -1<<32 - 1, math.MaxInt, math.MaxInt - 1, math.MinInt, math.MinInt + 1, math.MaxInt32, math.MinInt32}
	for _, ahead := range there {
		for _, behind := range there {
			syms := slices.Concat(ahead, behind)
			isWord(t, g, modelOf(g), syms)
			l, e := least.Word(g, syms)
			if slices.Contains(syms, -4) && (len(l) != 0 || e != api.ErrEmpty) || e == api.ErrArg {
				t.Fatalf("%v: %v %v", syms, l, e)
			}
			for _, sym := range absent {
				if l, e := least.Word(g, slices.Concat(ahead, []int{sym}, behind)); len(l) != 0 || e != api.ErrArg {
					t.Fatalf("%v %d %v: %v %v", ahead, sym, behind, l, e)
				}
			}
		}
	}
	if l, e := least.Word(specimen.Read(t, "%% s : ;"), []int{0}); len(l) != 0 || e != api.ErrArg {
		t.Error(l, e)
	}
}

// never is one like the small one, none of which is productive.
func never() api.Grammar {
	g := specimen.Small()
	for i := range g.Rules {
		g.Rules[i] = specimen.Rule(g.Rules[i].Left, -2, -1, 0, 1, 2)
	}
	return g
}

// great is one like the small one, whose first nonterminal's tree is too great.
func great() api.Grammar {
	g := specimen.Small()
	g.Nons = append(g.Nons, "g", "h", "i")
	g.Rules = append(steep(5, 0).Rules[:4], specimen.Rule(4), specimen.Rule(4, 4))
	return g
}

// P14.1: a grammar that may not be, in each way, has nothing: no heights, no least rules, and ErrArg, also where it would be ErrEmpty, or ErrBudget.
func TestMayNotBe(t *testing.T) {
	for _, g := range []api.Grammar{specimen.Small(), never(), great()} {
		isLeast(t, g, modelOf(g))
	}
	if _, e := least.Tree(never(), 1); e != api.ErrEmpty {
		t.Error(e)
	}
	if _, e := least.Tree(great(), 0); e != api.ErrBudget {
		t.Error(e)
	}
	isNothing(t, api.Grammar{})
	for i, change := range specimen.Changes() {
		for _, was := range []api.Grammar{specimen.Small(), never(), great()} {
			g := specimen.Copied(was)
			change(&g)
			if !cfg.Right(g) {
				isNothing(t, g)
			} else if len(was.Nons) == 2 {
				t.Fatal(i, g)
			}
		}
	}
}

// P14.1: what is of no use makes a grammar one that may not be, too.
func TestMayNotBeUnused(t *testing.T) {
	g := specimen.Read(t, "%% s : 'a' ; t : t | s t ;")
	isTold(t, []told{{"%% s : 'a' ; t : t | s t ;", "1 0", "0 -1", "0|!", "a|"}})
	for _, change := range []func(*api.Grammar){
		func(g *api.Grammar) { g.Nons[1] = "1" },
		func(g *api.Grammar) { g.Nons[1] = "s" },
		func(g *api.Grammar) { g.Rules[1].Right[0] = -3 },
		func(g *api.Grammar) { g.Rules[1].Right[0] = 1 },
		func(g *api.Grammar) { g.Rules[2].Right = slices.Repeat([]int{-2}, 7) },
		func(g *api.Grammar) { g.Rules[2].Prec = 1 },
		func(g *api.Grammar) { g.Rules = g.Rules[:1] },
		func(g *api.Grammar) { g.Rules = append(g.Rules, slices.Repeat(g.Rules[2:], 38)...) },
		func(g *api.Grammar) { g.Terms = append(g.Terms, api.Term{Name: "t"}) },
		func(g *api.Grammar) { g.Start = 2 },
	} {
		h := specimen.Copied(g)
		change(&h)
		isNothing(t, h)
	}
}
