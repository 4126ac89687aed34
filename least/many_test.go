package least_test

import (
	"slices"
	"testing"

	"gerund/api"
	"gerund/cfg"
	"gerund/least"
	"gerund/specimen"
)

// ways are those in which a chain's links have more rules than they need.
const (
	alone  = iota // no more
	self          // ahead, one with itself alone
	ahead         // ahead, one with the first link, too
	behind        // behind, one with the first link, too
	twice         // behind, the same one
	ways
)

// chain is a grammar of nonterminals in some order, each of which has a rule with the next one, the last one with what is told; and, in some way, one more. Each is one higher than the next one.
func chain(links, end []int, start, way int) model {
	n := len(links)
	m := model{heights: make([]int, n), rules: make([]int, n)}
	g := api.Grammar{Terms: specimen.Termed("A", "B"), Nons: specimen.Numbered("e", n), Start: start}
	for e := range n {
		link := slices.Index(links, e)
		right := end
		if link+1 < n {
			right = []int{1, -1 - links[link+1]}
		}
		higher := append(slices.Clone(right), -1-links[0])
		l := [][][]int{alone: {right}, self: {{-1 - e}, right}, ahead: {higher, right}, behind: {right, higher}, twice: {right, right}}[way]
		m.heights[e], m.rules[e] = n-link, len(g.Rules)
		if way == self || way == ahead {
			m.rules[e]++
		}
		for _, right := range l {
			g.Rules = append(g.Rules, specimen.Rule(e, right...))
		}
	}
	m.g = g
	return m
}

// P14.1, P14.2: chains of up to 16 nonterminals, in rising, falling and other numbers, whatever link is the start, and whatever rules they have beside those of the chain.
func TestChains(t *testing.T) {
	for n := 1; n <= 16; n++ {
		for _, links := range specimen.Orders(n) {
			for at, start := range links {
				for way := range ways {
					m := chain(links, [][]int{nil, {0, 1}}[(at+way)%2], start, way)
					isLeast(t, m.g, m)
				}
				// None of them is productive, if the last one comes back.
				m := chain(links, []int{-1 - links[at]}, start, at%ways)
				isLeast(t, m.g, model{g: m.g, heights: make([]int, n), rules: slices.Repeat([]int{-1}, n)})
			}
		}
	}
}

// P14.1, P14.2: 16 nonterminals, each of which has a rule with all that are ahead of it in some order, and up to six of them: each is one higher than the one ahead.
func TestDense(t *testing.T) {
	for n := 1; n <= 16; n++ {
		for _, links := range specimen.Orders(n) {
			m := model{heights: make([]int, n), rules: make([]int, n)}
			m.g = api.Grammar{Nons: specimen.Numbered("e", n), Start: links[0]}
			for e := range n {
				link := slices.Index(links, e)
				var right []int
				for _, to := range links[max(0, link-6):link] {
					right = append(right, -1-to)
				}
				m.heights[e], m.rules[e] = link+1, len(m.g.Rules)
				m.g.Rules = append(m.g.Rules, specimen.Rule(e, right...))
			}
			isLeast(t, m.g, m)
		}
	}
}

// picks are the Rights of rules among which one is picked, and their heights; 0 of those that count never, 99 of such as have the Left, which is less high by another one. There are nonterminals of the heights 1 to 3, -2 to -4, and one that isn't productive, -5.
func picks() ([][]int, []int) {
	return [][]int{nil, {1, 0}, {-2}, {-3, 1, -2}, {-2, -4, 1, -4}, {-1}, {-2, -1}, {-5}, {-2, -5, 0}}, []int{1, 1, 2, 3, 4, 99, 99, 0, 0}
}

// picked is a grammar whose first nonterminal has rules with such Rights: ahead of the others' rules, or the first one of them ahead, and the rest behind; and what is told of that nonterminal.
func picked(at []int, together bool) (g api.Grammar, height, rule int) {
	rights, heights := picks()
	g = api.Grammar{Terms: specimen.Termed("A", "B"), Nons: specimen.Numbered("e", 5)}
	rule = -1
	others := []api.Rule{specimen.Rule(1, 1), specimen.Rule(2, -2), specimen.Rule(3, -3, 0), specimen.Rule(4, -5)}
	for i, pick := range at {
		if i == 1 && !together {
			g.Rules = append(g.Rules, others...)
		}
		if h := heights[pick]; h > 0 && h < 99 && (height == 0 || h < height) {
			height, rule = h, len(g.Rules)
		}
		g.Rules = append(g.Rules, specimen.Rule(0, rights[pick]...))
	}
	if together || len(at) == 1 {
		g.Rules = append(g.Rules, others...)
	}
	return g, height, rule
}

// P14.1, P14.2: a nonterminal of up to four rules of all heights, with itself, and with one that isn't productive: the first of the least ones counts.
func TestPicks(t *testing.T) {
	rights, _ := picks()
	for n := 1; n <= 4; n++ {
		digits := make([]int, n)
		for more := true; more; more = specimen.Count(digits, len(rights)) {
			g, height, rule := picked(digits, digits[0]%2 == n%2)
			m := modelOf(g)
			if m.heights[0] != height || m.rules[0] != rule || !slices.Equal(m.heights[1:], []int{1, 2, 3, 0}) {
				t.Fatalf("%v: %v, not %d %d", g, m, height, rule)
			}
			isLeast(t, g, m)
		}
	}
}

// P14.1, P14.2: a Right of up to six symbols of all kinds (a terminal, nonterminals of the heights 1 to 3, the Left, one that isn't productive), ahead of one of height 5.
func TestWide(t *testing.T) {
	for most := range 7 {
		kinds := make([]int, most)
		for more := true; more; more = specimen.Count(kinds, 6) {
			g := api.Grammar{Terms: specimen.Termed("A", "B"), Nons: specimen.Numbered("e", 6)}
			var right []int
			height := 1
			for _, kind := range kinds {
				right = append(right, []int{0, -2, -3, -4, -1, -6}[kind])
				height = max(height, []int{1, 2, 3, 4, 5, 5}[kind])
			}
			rule := 0
			if height == 5 {
				rule = 1
			}
			g.Rules = []api.Rule{specimen.Rule(0, right...), specimen.Rule(0, -5), specimen.Rule(1), specimen.Rule(1, 0), specimen.Rule(2, -2, 1), specimen.Rule(3, -3, -3), specimen.Rule(4, -2, -4), specimen.Rule(5, -6, -2)}
			isLeast(t, g, model{g: g, heights: []int{height, 1, 2, 3, 4, 0}, rules: []int{rule, 2, 4, 5, 6, -1}})
		}
	}
}

// steep is a grammar of nonterminals each of which has six of the next one; the last one has what is told.
func steep(nons int, end ...int) api.Grammar {
	g := api.Grammar{Terms: specimen.Termed("A"), Nons: specimen.Numbered("e", nons)}
	for n := range nons - 1 {
		g.Rules = append(g.Rules, specimen.Rule(n, slices.Repeat([]int{-2 - n}, 6)...))
	}
	g.Rules = append(g.Rules, specimen.Rule(nons-1, end...))
	return g
}

// sized is a grammar of the tree of whose start just so many rules are, each of them with some terminals.
func sized(rules int, terms ...int) api.Grammar {
	var sizes []int
	for size := rules; size > 1; size = (size - 1) / 2 {
		sizes = append(sizes, size)
	}
	g := api.Grammar{Terms: specimen.Termed("A"), Rules: []api.Rule{specimen.Rule(0, terms...)}}
	for _, size := range slices.Backward(sizes) {
		right := slices.Clone(terms)
		if size > 2 {
			right = append(right, -len(g.Rules), -len(g.Rules))
		}
		if size%2 == 0 {
			right = append(right, -1)
		}
		g.Rules = append(g.Rules, specimen.Rule(len(g.Rules), right...))
	}
	g.Nons, g.Start = specimen.Numbered("e", len(g.Rules)), len(sizes)
	return g
}

// P14.1: trees of up to 400 rules, and of about each power of two: more than 300 are too many. More than 60 terminals are too many for a sentence, not for a tree.
func TestTreeSizes(t *testing.T) {
	sizes := specimen.Rising(400)[1:]
	for bits := 9; bits <= 16; bits++ {
		for more := -3; more <= 3; more++ {
			sizes = append(sizes, 1<<bits+more)
		}
	}
	for _, rules := range sizes {
		for terms := range 4 {
			g := sized(rules, make([]int, terms)...)
			if !cfg.Right(g) {
				t.Fatal(g)
			}
			isLeast(t, g, modelOf(g))
			l, e := least.Tree(g, g.Start)
			if rules <= 300 && (e != api.OK || len(l) != rules) || rules > 300 && (e != api.ErrBudget || len(l) != 0) {
				t.Fatal(rules, len(l), e)
			}
			isGranted(t, modelOf(g), []int{-1 - g.Start}, rules, rules*terms)
		}
	}
}

// P14.1: trees of as many rules as there may be: each link but the last ones has too many, and so has all that uses it.
func TestSteep(t *testing.T) {
	for n := 1; n <= 16; n++ {
		for _, end := range [][]int{nil, {0}, {0, 0, 0, 0, 0, 0}} {
			g := steep(n, end...)
			m := model{g: g, heights: specimen.Rising(n + 1)[1:], rules: specimen.Rising(n)}
			slices.Reverse(m.heights)
			isLeast(t, g, m)
			for at := range n {
				l, e := least.Tree(g, at)
				if want := []int{1, 7, 43, 259}; n-at <= 4 && (e != api.OK || len(l) != want[n-1-at]) || n-at > 4 && e != api.ErrBudget {
					t.Fatal(n, at, len(l), e)
				}
			}
		}
	}
}

// P14.1: so many symbols of so great trees that their rules, and terminals, are more than a number of 64 bits has.
func TestVeryMany(t *testing.T) {
	if testing.Short() {
		t.Skip("some 130 MB of symbols")
	}
	for _, end := range [][]int{nil, {0}} {
		g := steep(16, end...)
		// Each has (6^16 - 1) / 5 rules, about 2^39.
		for _, n := range []int{1, 2, 5, 301, 1 << 12, 1 << 24} {
			if l, e := least.Word(g, slices.Repeat([]int{-1}, n)); e != api.ErrBudget || len(l) != 0 {
				t.Error(n, len(l), e)
			}
		}
	}
}

// parts is a grammar of nonterminals whose trees have 1, 3, 7 rules and so on, up to 255, none of them a terminal; and of such as have 1, 2, 4 terminals, and so on, up to 64, whose trees are as great.
func parts() api.Grammar {
	g := api.Grammar{Terms: specimen.Termed("A", "B", "C"), Nons: specimen.Numbered("e", 15)}
	for n := range 15 {
		switch n {
		case 7:
			g.Rules = append(g.Rules, specimen.Rule(n))
		case 14:
			g.Rules = append(g.Rules, specimen.Rule(n, 1))
		default:
			g.Rules = append(g.Rules, specimen.Rule(n, -2-n, -2-n))
		}
	}
	return g
}

// without are symbols of the parts whose trees have so many rules together, and no terminal.
func without(rules int) []int {
	var l []int
	for n, size := range []int{255, 127, 63, 31, 15, 7, 3, 1} {
		for ; rules >= size; rules -= size {
			l = append(l, -1-n)
		}
	}
	return l
}

// within are symbols of the parts whose sentence has so many terminals, each of them within a tree; and how many rules these have.
func within(terms int) (l []int, rules int) {
	for i, size := range []int{64, 32, 16, 8, 4, 2, 1} {
		for ; terms >= size; terms -= size {
			l, rules = append(l, -9-i), rules+2*size-1
		}
	}
	return l, rules
}

// P14.1: symbols whose trees have just so many rules together, and whose sentence has just so many terminals: each alone would do, together they may not.
func TestTogether(t *testing.T) {
	g := parts()
	m := modelOf(g)
	isLeast(t, g, m)
	d := specimen.Drawer(14)
	for _, rules := range []int{0, 1, 2, 60, 61, 150, 254, 255, 256, 299, 300, 301, 302, 303, 510, 512, 599, 600, 1000} {
		for terms := range 125 {
			syms := append(without(rules), slices.Repeat([]int{2}, terms)...)
			isGranted(t, m, syms, rules, terms)
			if l, more := within(terms); more <= rules {
				isGranted(t, m, append(without(rules-more), l...), rules, terms)
				slices.Reverse(l)
				isGranted(t, m, append(l, without(rules-more)...), rules, terms)
			}
			var mixed []int
			for _, i := range d.Order(len(syms)) {
				mixed = append(mixed, syms[i])
			}
			isGranted(t, m, mixed, rules, terms)
		}
	}
}

// isGranted holds the least sentence of such symbols to being there just if neither is too much.
func isGranted(t *testing.T, m model, syms []int, rules, terms int) {
	t.Helper()
	isWord(t, m.g, m, syms)
	l, e := least.Word(m.g, syms)
	want := api.ErrBudget
	if rules <= 300 && terms <= 60 {
		want = api.OK
	}
	if e != want || e == api.OK && len(l) != terms {
		t.Fatalf("%v: %d %v, not %d %v", syms, len(l), e, terms, want)
	}
}

// P14.1, P14.2: all grammars of two nonterminals, a terminal, and three rules of at most two symbols, against a model.
func TestAllSmall(t *testing.T) {
	for g := range specimen.Every(1) {
		if !cfg.Right(g) {
			isNothing(t, g)
			continue
		}
		m := modelOf(g)
		isLeast(t, g, m)
		isOnly(t, g, m.heights)
	}
}

// drawn are grammars of up to 16 nonterminals: a third of them with more terminals, a third with great trees.
func drawn(seed, n int) []api.Grammar {
	d := specimen.Drawer(seed)
	var l []api.Grammar
	for i := range n {
		switch i % 3 {
		case 0:
			l = append(l, d.Some(16))
		case 1:
			l = append(l, d.Thin(d.Some(16)))
		case 2:
			l = append(l, climb(&d))
		}
	}
	return l
}

// climb is a drawn grammar of nonterminals in some order, each of which has two rules of up to six symbols, most of them nonterminals that come soon behind it; the last one's are terminals.
func climb(d *specimen.Drawer) api.Grammar {
	links := d.Order(1 + d.Below(16))
	g := api.Grammar{Terms: specimen.Termed("A", "B"), Nons: specimen.Numbered("e", len(links)), Start: d.Below(len(links))}
	for e := range links {
		later := links[slices.Index(links, e)+1:]
		for range 2 {
			var right []int
			for range d.Below(7) {
				if len(later) == 0 || d.Below(5) == 0 {
					right = append(right, d.Below(2))
				} else {
					right = append(right, -1-later[d.Below(min(3, len(later)))])
				}
			}
			g.Rules = append(g.Rules, specimen.Rule(e, right...))
		}
	}
	return g
}

// drawnSyms are up to eight symbols that there are, and seldom one that there isn't.
func drawnSyms(d *specimen.Drawer, g api.Grammar) []int {
	var l []int
	for range d.Below(9) {
		l = append(l, d.Below(len(g.Terms)+len(g.Nons))-len(g.Nons))
	}
	if len(l) > 0 && d.Below(10) == 0 {
		l[d.Below(len(l))] = []int{len(g.Terms), -1 - len(g.Nons)}[d.Below(2)]
	}
	return l
}

// P14.1, P14.2: drawn grammars, and drawn symbols of them, against a model: of each kind some.
func TestDrawn(t *testing.T) {
	d := specimen.Drawer(41)
	errs, seen := map[api.Errno]int{}, map[api.Errno]int{}
	var high, later, mixed int
	for _, g := range drawn(14, 12000) {
		m := modelOf(g)
		isLeast(t, g, m)
		for n, height := range m.heights {
			_, e := least.Tree(g, n)
			errs[e]++
			if height > 4 {
				high++
			}
			if first := slices.IndexFunc(g.Rules, func(r api.Rule) bool { return r.Left == n }); height > 0 && m.rules[n] > first {
				later++
			}
		}
		if slices.Contains(m.heights, 0) && slices.Max(m.heights) > 1 {
			mixed++
		}
		for range 4 {
			syms := drawnSyms(&d, g)
			isWord(t, g, m, syms)
			_, e := least.Word(g, syms)
			seen[e]++
		}
	}
	if errs[api.OK] < 5000 || errs[api.ErrEmpty] < 5000 || errs[api.ErrBudget] < 100 {
		t.Error(errs)
	}
	if seen[api.OK] < 5000 || seen[api.ErrEmpty] < 5000 || seen[api.ErrArg] < 2000 || seen[api.ErrBudget] < 500 {
		t.Error(seen)
	}
	if high < 1000 || later < 1000 || mixed < 1000 {
		t.Error(high, later, mixed)
	}
}

// kinds are grammars of all kinds: such as may be, and such as may not.
func kinds() []api.Grammar {
	l := append(specimen.Wrong(), specimen.Small(), never(), great(), steep(16, 0), parts(), sized(300, 0))
	return append(l, drawn(33, 400)...)
}

// P14.1: grammars and symbols stay as they were, their spare room too, and are answered the same once more.
func TestLeftAsItWas(t *testing.T) {
	d := specimen.Drawer(44)
	for _, g := range kinds() {
		given, asWas := specimen.Spare(g)
		for range 2 {
			if !cfg.Right(g) {
				isNothing(t, given)
				continue
			}
			m := modelOf(g)
			isLeast(t, given, m)
			syms := drawnSyms(&d, g)
			full := append(slices.Clone(syms), 0, -1, 77, 77, 77)
			was := slices.Clone(full)
			isWord(t, given, m, full[:len(syms)])
			if !slices.Equal(full, was) {
				t.Fatal(g, full, was)
			}
		}
		if !asWas() {
			t.Fatal(given, g)
		}
	}
}

// P14.1: what is answered is new memory: who writes into a list of it changes neither what was handed in nor another answer, and the next answer is the same.
func TestNewMemory(t *testing.T) {
	for _, g := range kinds() {
		if !cfg.Right(g) {
			continue
		}
		was, m := specimen.Copied(g), modelOf(g)
		syms := []int{-1 - m.g.Start, -1}
		asked := slices.Clone(syms)
		for range 2 {
			heights, rules := least.Heights(g), least.Rules(g)
			tree, _ := least.Tree(g, g.Start)
			word, _ := least.Word(g, syms)
			again := slices.Clone(tree)
			specimen.Spoil(heights, 88)
			specimen.Spoil(word, 88)
			if !slices.Equal(rules, m.rules) || !slices.Equal(tree, again) {
				t.Fatal(g, rules, tree)
			}
			specimen.Spoil(rules, 88)
			specimen.Spoil(tree, 88)
			if !cfg.Same(g, was) || !slices.Equal(syms, asked) {
				t.Fatal(g, was, syms)
			}
			isLeast(t, g, m)
		}
	}
}
