package first_test

import (
	"math"
	"slices"
	"strings"
	"testing"

	"gerund/api"
	"gerund/cfg"
	"gerund/first"
	"gerund/specimen"
)

const all = 1<<32 - 1

// setOf is the set of literals of one letter each; $ is the end, - nothing.
func setOf(t *testing.T, g api.Grammar, letters string) uint32 {
	t.Helper()
	var s uint32
	for _, c := range letters {
		switch sym, ok := cfg.Find(g, "'"+string(c)+"'"); {
		case c == '$':
			s |= 1 << len(g.Terms)
		case ok:
			s |= 1 << sym
		case c != '-':
			t.Fatalf("%v: no %q", g, c)
		}
	}
	return s
}

// setsOf are as many.
func setsOf(t *testing.T, g api.Grammar, text string) []uint32 {
	t.Helper()
	var l []uint32
	for _, letters := range strings.Fields(text) {
		l = append(l, setOf(t, g, letters))
	}
	return l
}

// symsOf are those of names.
func symsOf(t *testing.T, g api.Grammar, names string) []int {
	t.Helper()
	var l []int
	for _, s := range strings.Fields(names) {
		sym, ok := cfg.Find(g, s)
		if !ok {
			t.Fatalf("%v: no %s", g, s)
		}
		l = append(l, sym)
	}
	return l
}

// rests are none, all, those of one number, and some others: numbers of terminals, the end's, and such as are behind it.
func rests() []uint32 {
	l := []uint32{0, all, 5, 0x55555555, 0xaaaaaaaa, 0xffff0000, 0x80000001}
	for n := range 32 {
		l = append(l, 1<<n)
	}
	return l
}

// isFirst holds a grammar to FIRST and FOLLOW of its nonterminals, and FIRST to what its rules begin with.
func isFirst(t *testing.T, g api.Grammar, begins, follow []uint32) {
	t.Helper()
	if a, b := first.First(g), first.Follow(g); !slices.Equal(a, begins) || !slices.Equal(b, follow) {
		t.Fatalf("%v: %b %b, not %b %b", g, a, b, begins, follow)
	}
	together := make([]uint32, len(begins))
	for _, r := range g.Rules {
		together[r.Left] |= first.Of(g, r.Right, 0)
	}
	if !slices.Equal(together, begins) {
		t.Fatalf("%v: %b, not %b", g, together, begins)
	}
}

// isNothing holds the calls of a grammar that may not be to no answers.
func isNothing(t *testing.T, g api.Grammar) {
	t.Helper()
	if a, b := first.First(g), first.Follow(g); len(a)+len(b) != 0 {
		t.Fatalf("%v: %b %b", g, a, b)
	}
	for _, syms := range [][]int{nil, {}, {0}, {-1}, {-2, -1}, {99}} {
		for _, rest := range rests() {
			if s := first.Of(g, syms, rest); s != 0 {
				t.Fatalf("%v: %v %b: %b", g, syms, rest, s)
			}
		}
	}
}

// isOf holds FIRST of symbols, wherever they are parted, to what it must be, with a rest that counts where all are nullable, or brought by one.
func isOf(t *testing.T, g api.Grammar, syms []int, begins uint32, nullable bool) {
	t.Helper()
	for _, rest := range rests() {
		want := begins
		if nullable {
			want |= rest
		}
		if s := first.Of(g, syms, rest); s != want {
			t.Fatalf("%v: %v %b: %b, not %b", g, syms, rest, s, want)
		}
		for at := range len(syms) + 1 {
			if s := first.Of(g, syms[:at], first.Of(g, syms[at:], rest)); s != want {
				t.Fatalf("%v: %v at %d %b: %b, not %b", g, syms, at, rest, s, want)
			}
		}
	}
}

// P12.1: told grammars.
func TestTold(t *testing.T) {
	for _, x := range []struct{ text, first, follow string }{
		// The chapter's example.
		{"%% s : n 'a' ; n : 'b' | ;", "ab b", "$ a"},
		// One nonterminal: without symbols, a terminal, itself, in each place.
		{"%% s : ;", "-", "$"},
		{"%% s : | | ;", "-", "$"},
		{"%% s : 'a' ;", "a", "$"},
		{"%% s : 'a' 'b' | 'c' ;", "ac", "$"},
		{"%% s : s ;", "-", "$"},
		{"%% s : s 'a' ;", "-", "$a"},
		{"%% s : 'a' s ;", "a", "$"},
		{"%% s : s 'a' | 'b' ;", "b", "$a"},
		{"%% s : s 'a' | ;", "a", "$a"},
		{"%% s : 'a' s 'b' | ;", "a", "$b"},
		{"%% s : s s | 'a' ;", "a", "$a"},
		{"%% s : s s | 'a' | ;", "a", "$a"},
		{"%% s : s 'a' s 'b' s | 'c' ;", "c", "$ab"},
		// Nullable at the beginning, in the middle, at the end; and not.
		{"%% s : n 'a' m 'b' o ; n : 'c' | ; m : 'd' | ; o : 'e' | ;", "ca c d e", "$ a b $"},
		{"%% s : 'a' n m 'b' ; n : 'c' | ; m : 'd' | ;", "a c d", "$ db b"},
		{"%% s : 'a' n m 'b' ; n : 'c' ; m : 'd' ;", "a c d", "$ d b"},
		{"%% s : 'a' n m ; n : 'c' | ; m : 'd' | ;", "a c d", "$ d$ $"},
		{"%% s : n m o ; n : 'a' ; m : 'b' | ; o : 'c' ;", "a a b c", "$ bc c $"},
		{"%% s : n m o ; n : 'a' | ; m : 'b' ; o : 'c' | ;", "ab a b c", "$ b c$ $"},
		{"%% s : n m o ; n : 'a' | ; m : 'b' | ; o : 'c' | ;", "abc a b c", "$ bc$ c$ $"},
		{"%% s : n n 'a' | m ; n : ; m : n n ;", "a - -", "$ a$ $"},
		{"%% s : n m 'a' ; n : m ; m : n | 'b' | ;", "ab b b", "$ ab ab"},
		// Rules that begin with themselves, by steps; with nullable ones ahead.
		{"%% s : t 'a' | 'b' ; t : u ; u : s 'c' | ;", "ab ab ab", "$c a a"},
		{"%% s : n s 'a' | 'b' ; n : 'c' | ;", "bc c", "$a bc"},
		{"%% s : n t 'a' ; t : n s | 'b' ; n : 'c' | ;", "bc bc c", "a$ a bc"},
		{"%% e : t x ; x : 'a' t x | ; t : f y ; y : 'b' f y | ; f : 'c' e 'd' | 'e' ;", "ce a ce b ce", "d$ d$ ad$ ad$ abd$"},
		{"%% e : e 'a' t | t ; t : t 'b' f | f ; f : 'c' e 'd' | 'e' ;", "ce ce ce", "ad$ abd$ abd$"},
		// Not productive: they begin with what they begin with, and are followed.
		{"%% s : u 'a' ; u : u ;", "- -", "$ a"},
		{"%% s : u 'a' | 'b' ; u : u 'c' ;", "b -", "$ ac"},
		{"%% s : 'a' u n ; u : u 'b' ; n : 'c' | ;", "a - c", "$ cb$ $"},
		{"%% s : n u 'a' ; u : 'b' u ; n : 'c' | ;", "bc b c", "$ a b"},
		{"%% s : n u 'a' ; u : u ; n : 'c' | ;", "c - c", "$ a -"},
		{"%% s : u | 'a' ; u : 'b' u v ; v : v n ; n : ;", "ab b - -", "$ $ $ $"},
		// Not reachable: its rules count, and nothing follows it but what they tell.
		{"%% s : 'a' ; t : s 'b' t ;", "a a", "$b -"},
		{"%% s : 'a' n ; n : ; t : n 'b' ;", "a - b", "$ $b -"},
		{"%% s : 'a' ; t : v 'c' ; v : t s | 'b' ;", "a b b", "$c a c"},
		// The start isn't the first one, stands in a Right, or in none.
		{"%start t %% s : 'a' ; t : s 'b' ;", "a a", "b $"},
		{"%start t %% s : t 'a' | t ; t : 'b' ;", "b b", "- $a"},
		{"%start t %% s : 'a' t ; t : s | 'b' ;", "a ab", "$ $"},
		{"%start v %% s : t 'a' ; t : 'b' v ; v : 'c' | s v ;", "b b bc", "bc a a$"},
		// Without terminals, and with such as no rule has.
		{"%% s : n ; n : ;", "- -", "$ $"},
		{"%token 'a' 'b' 'c' %% s : 'b' s | ;", "b", "$"},
		{"%token 'a' 'b' %left 'c' %% s : 'b' n %prec 'a' | %prec 'c' ; n : s s ;", "b b", "b$ b$"},
	} {
		g := specimen.Read(t, x.text)
		isFirst(t, g, setsOf(t, g, x.first), setsOf(t, g, x.follow))
		m := modelOf(g)
		if !slices.Equal(m.first, setsOf(t, g, x.first)) || !slices.Equal(m.follow, setsOf(t, g, x.follow)) {
			t.Errorf("%q: the model: %b", x.text, m)
		}
	}
}

// P12.1, P12.2: FIRST of symbols and a rest, told: none, one, many.
func TestOfTold(t *testing.T) {
	g := specimen.Read(t, "%% s : n m 'a' ; n : 'b' | ; m : 'c' | n ; t : 'd' m ; u : u 'e' ;")
	for _, x := range []struct {
		syms, begins string
		nullable     bool
	}{
		{"", "-", true},
		{"'a'", "a", false},
		{"'e'", "e", false},
		{"n", "b", true},
		{"m", "bc", true},
		{"s", "abc", false},
		{"t", "d", false},
		{"u", "-", false},
		{"n m", "bc", true},
		{"m n", "bc", true},
		{"n n n n n n n", "b", true},
		{"'a' n", "a", false},
		{"n 'a'", "ab", false},
		{"n 'a' m", "ab", false},
		{"m t n", "bcd", false},
		{"t m n", "d", false},
		{"n u 'a'", "b", false},
		{"u n", "-", false},
		{"n n s t", "abc", false},
		{"'a' 'b'", "a", false},
		{"n n 'e' 'd' n", "be", false},
	} {
		isOf(t, g, symsOf(t, g, x.syms), setOf(t, g, x.begins), x.nullable)
	}
	for _, rest := range rests() {
		if s := first.Of(g, []int{}, rest); s != rest {
			t.Errorf("%b: %b", rest, s)
		}
	}
}

// P12.1: very many symbols, up to what is no nullable one, or isn't there.
func TestOfMany(t *testing.T) {
	g := specimen.Read(t, "%% s : n m 'a' ; n : 'b' | ; m : 'c' | n ;")
	for _, n := range []int{7, 32, 33, 64, 65, 1000, 100000} {
		syms := slices.Repeat([]int{-2}, n)
		for _, rest := range rests() {
			for _, x := range []struct {
				more []int
				want uint32
			}{{nil, rest | 2}, {[]int{-3}, rest | 6}, {[]int{0}, 3}, {[]int{0, -3}, 3}, {[]int{-1}, 7}, {[]int{-3, 1}, 6}, {[]int{3}, 0}, {[]int{-4}, 0}, {[]int{0, 3}, 0}} {
				if s := first.Of(g, append(slices.Clip(syms), x.more...), rest); s != x.want {
					t.Fatalf("%d %v %b: %b, not %b", n, x.more, rest, s, x.want)
				}
			}
		}
	}
}

// P12.1: symbols that aren't there, at whatever place: ahead of others, behind them, and behind a terminal too.
func TestAbsent(t *testing.T) {
	g := specimen.Read(t, "%% s : n 'a' ; n : 'b' | ;")
	there := [][]int{nil, {0}, {1}, {-1}, {-2}, {-2, -2}, {-2, 0}, {0, -2}, {-1, 1}, {-2, -1, 1}}
	absent := []int{2, 3, 4, 23, 24, 25, 31, 32, 33, 63, 64, 65, -3, -4, -5, -16, -17, -18, -31, -32, -33, -64, -65, math.MaxInt, math.MinInt, math.MaxInt32, math.MinInt32, 1 << 32, 1<<32 + 1, 1<<32 - 1, 1<<32 - 2, -1 << 32, -1<<32 + 1, math.MinInt + 1, math.MaxInt - 1}
	for _, sym := range absent {
		for _, ahead := range there {
			for _, behind := range there {
				for _, rest := range []uint32{0, 1, 4, 7, all} {
					if s := first.Of(g, slices.Concat(ahead, []int{sym}, behind), rest); s != 0 {
						t.Fatalf("%v %d %v %b: %b", ahead, sym, behind, rest, s)
					}
				}
			}
		}
	}
	for _, x := range there[1:] {
		if first.Of(g, x, 1) == 0 {
			t.Error(x)
		}
	}
	g = specimen.Read(t, "%% s : ;")
	if s := first.Of(g, []int{0}, all); s != 0 {
		t.Errorf("%b", s)
	}
}

// P12.1: a grammar that may not be, in each way, has nothing.
func TestMayNotBe(t *testing.T) {
	g := specimen.Small()
	isFirst(t, g, []uint32{1 | 1<<2 | 1<<4, 1 | 1<<4}, []uint32{1 << 2, 1 | 1<<2 | 1<<4 | 1<<5})
	for i, change := range specimen.Changes() {
		g := specimen.Small()
		change(&g)
		if cfg.Right(g) {
			t.Fatal(i, g)
		}
		isNothing(t, g)
	}
}

// chain is a grammar of as many terminals as nonterminals, each of which is a link: it has first a rule with the next link alone (the last one with what is told), and, behind all of these, one more.
func chain(links []int, start int, last []int, more func(link int) []int) api.Grammar {
	n := len(links)
	g := api.Grammar{Terms: specimen.Termed(specimen.Numbered("T", n)...), Nons: specimen.Numbered("e", n), Start: start}
	for e := range n {
		link := slices.Index(links, e)
		right := last
		if link+1 < n {
			right = []int{-1 - links[link+1]}
		}
		g.Rules = append(g.Rules, api.Rule{Left: e, Right: right, Prec: specimen.LastOf(right)})
	}
	for link, e := range links {
		right := more(link)
		g.Rules = append(g.Rules, api.Rule{Left: e, Right: right, Prec: specimen.LastOf(right)})
	}
	return g
}

// linked are the sets of nonterminals, told link by link.
func linked(links []int, of func(link int) uint32) []uint32 {
	l := make([]uint32, len(links))
	for link, e := range links {
		l[e] = of(link)
	}
	return l
}

// from are the numbers from one on, and below another one.
func from(low, high int) uint32 {
	return uint32(1<<high - 1<<low)
}

// P12.1: chains of up to 16 nonterminals, whose rules stand ahead of, or behind, those of the next one; whatever link is the start.
func TestChains(t *testing.T) {
	for n := 1; n <= 16; n++ {
		for _, links := range specimen.Orders(n) {
			for at, start := range links {
				ended := func(link int) uint32 {
					if link < at {
						return 0
					}
					return 1 << n
				}
				next := func(link int) []int {
					if link+1 < n {
						return []int{-1 - links[link+1], link}
					}
					return []int{link}
				}
				// What begins the last one begins all of them; what follows one, follows all later ones.
				follow := linked(links, func(link int) uint32 { return ended(link) | from(0, link) })
				g := chain(links, start, []int{n - 1}, next)
				isFirst(t, g, linked(links, func(int) uint32 { return 1 << (n - 1) }), follow)
				// All are nullable, so each begins with what is behind the next one, too.
				g = chain(links, start, nil, next)
				isFirst(t, g, linked(links, func(link int) uint32 { return from(link, n) }), follow)
				// Each has a terminal of its own.
				g = chain(links, start, nil, func(link int) []int { return []int{link} })
				isFirst(t, g, linked(links, func(link int) uint32 { return from(link, n) }), linked(links, ended))
			}
		}
	}
}

// P12.1: rings of up to 16 nonterminals that come back to themselves alone, till one of them has another rule.
func TestRings(t *testing.T) {
	for n := 1; n <= 16; n++ {
		for _, links := range specimen.Orders(n) {
			g := chain(links, links[n/2], []int{-1 - links[0]}, func(link int) []int { return []int{-1 - links[(link+1)%n], link} })
			g.Terms = append(g.Terms, api.Term{Name: "last"})
			every := func(s uint32) []uint32 { return slices.Repeat([]uint32{s}, n) }
			follow := every(from(0, n) | 1<<(n+1))
			isFirst(t, g, every(0), follow)
			for i := range n {
				h := specimen.Copied(g)
				h.Rules = append(h.Rules, api.Rule{Left: i, Right: []int{n}, Prec: n})
				isFirst(t, h, every(1<<n), follow)
				h.Rules[len(h.Rules)-1] = api.Rule{Left: i, Prec: -1}
				isFirst(t, h, every(from(0, n)), follow)
			}
		}
	}
}

// P12.1, P12.2: a Right of up to six symbols, each of which is a terminal, a nullable nonterminal, or one that isn't.
func TestWide(t *testing.T) {
	for most := range 7 {
		kinds := make([]int, most)
		for more := true; more; more = specimen.Count(kinds, 3) {
			g := api.Grammar{Terms: specimen.Termed(specimen.Numbered("T", most)...), Nons: specimen.Numbered("e", most+1), Rules: []api.Rule{{Prec: -1}}}
			for i, kind := range kinds {
				sym := -2 - i
				g.Rules = append(g.Rules, api.Rule{Left: i + 1, Right: []int{i}, Prec: i})
				switch kind {
				case 1:
					g.Rules = append(g.Rules, api.Rule{Left: i + 1, Prec: -1})
				case 2:
					sym = i
				}
				g.Rules[0].Right = append(g.Rules[0].Right, sym)
			}
			g.Rules[0].Prec = specimen.LastOf(g.Rules[0].Right)
			isWide(t, g, kinds)
		}
	}
}

// isWide holds a grammar to what its first rule's symbols tell: those of kind 1 are nullable, those of kind 2 terminals.
func isWide(t *testing.T, g api.Grammar, kinds []int) {
	t.Helper()
	// The number behind the first one from there on that isn't nullable; or, if all are, behind the end.
	upTo := func(at int) int {
		for at < len(kinds) && kinds[at] == 1 {
			at++
		}
		return at + 1
	}
	reach := min(upTo(0), len(kinds))
	begins, follow := []uint32{from(0, reach)}, []uint32{1 << len(kinds)}
	for i, kind := range kinds {
		begins = append(begins, 1<<i)
		if kind == 2 {
			follow = append(follow, 0)
		} else {
			follow = append(follow, from(i+1, upTo(i+1)))
		}
	}
	isFirst(t, g, begins, follow)
	isOf(t, g, g.Rules[0].Right, begins[0], upTo(0) > len(kinds))
}

// P12.1: as many terminals, nonterminals and rules as may be.
func TestMost(t *testing.T) {
	for terms := range 25 {
		g := api.Grammar{Terms: specimen.Termed(specimen.Numbered("T", terms)...), Nons: specimen.Numbered("e", 16), Start: 15, Rules: []api.Rule{{Right: []int{-1}, Prec: -1}}}
		for i := range terms {
			g.Rules = append(g.Rules[:i], api.Rule{Left: 0, Right: []int{i}, Prec: i})
		}
		for e := range 15 {
			g.Rules = append(g.Rules, api.Rule{Left: e + 1, Right: []int{-1 - e}, Prec: -1})
		}
		isFirst(t, g, slices.Repeat([]uint32{from(0, terms)}, 16), slices.Repeat([]uint32{1 << terms}, 16))
		g.Rules = append(g.Rules, api.Rule{Left: 15, Right: []int{-16, -16}, Prec: -1})
		isFirst(t, g, slices.Repeat([]uint32{from(0, terms)}, 16), slices.Repeat([]uint32{from(0, terms+1)}, 16))
		for sym := range 30 {
			if s, there := first.Of(g, []int{sym}, all), sym < terms; there && s != 1<<sym || !there && s != 0 {
				t.Errorf("%d %d: %b", terms, sym, s)
			}
		}
	}
}

// P12.1: all grammars of two nonterminals, two terminals, and three rules of at most two symbols, against a model.
func TestAllSmall(t *testing.T) {
	for g := range specimen.Every(2) {
		if cfg.Right(g) {
			m := modelOf(g)
			isFirst(t, g, m.first, m.follow)
		}
	}
}

// drawn are grammars of up to 16 nonterminals and 24 terminals.
func drawn(seed, n int) []api.Grammar {
	d := specimen.Drawer(seed)
	var l []api.Grammar
	for i := range n {
		switch {
		case i%100 == 0:
			l = append(l, d.Grammar(d.Below(25), 10+d.Below(7), 16+d.Below(25), 1+d.Below(6)))
		case i%3 == 0:
			l = append(l, d.Some(7))
		default:
			nons := 1 + d.Below(7)
			l = append(l, d.Grammar(1+d.Below(24), nons, nons+d.Below(2*nons), 1+d.Below(6)))
		}
	}
	return l
}

// P12.1: drawn grammars, against a model: of each kind of them some.
func TestDrawn(t *testing.T) {
	var none, some, most, without, ended int
	for _, g := range drawn(12, 9000) {
		m := modelOf(g)
		isFirst(t, g, m.first, m.follow)
		for i, s := range m.follow {
			switch end := uint32(1) << len(g.Terms); {
			case s == 0 || m.first[i] == 0:
				none++
			case s == 2*end-1 || m.first[i] == end-1:
				most++
			case s&end == 0:
				without++
			case s == end:
				ended++
			default:
				some++
			}
		}
	}
	if none < 2000 || some < 2000 || most < 2000 || without < 2000 || ended < 1000 {
		t.Error(none, some, most, without, ended)
	}
}

// P12.2: FIRST of drawn symbols, wherever they are parted; it has the rest just if all are nullable, or one of them brings it.
func TestOfDrawn(t *testing.T) {
	d, nullable, not := specimen.Drawer(1212), 0, 0
	for _, g := range drawn(122, 300) {
		m := modelOf(g)
		for n := range 6 {
			var syms []int
			for range n {
				sym := d.Below(len(g.Terms)+len(g.Nons)) - len(g.Nons)
				if sym > 0 {
					sym = -1 - sym%len(g.Nons)
				}
				syms = append(syms, sym)
			}
			_, may := m.heads(syms)
			isOf(t, g, syms, m.of(syms, 0), may)
			if may {
				nullable++
			} else {
				not++
			}
		}
	}
	if nullable < 400 || not < 400 {
		t.Error(nullable, not)
	}
}

// kinds are grammars of all kinds: such as may be, and such as may not.
func kinds() []api.Grammar {
	return slices.Concat(drawn(33, 300), []api.Grammar{specimen.Small()}, specimen.Wrong())
}

// P12.1: grammars and symbols stay as they were, their spare room too, and are answered the same once more.
func TestLeftAsItWas(t *testing.T) {
	for _, g := range kinds() {
		given, asWas := specimen.Spare(g)
		room := []int{-1, -1, 0, -1, 55, 66}
		for n := range 5 {
			syms := room[:n]
			for range 2 {
				if !cfg.Right(g) {
					isNothing(t, given)
				}
				var want uint32
				lacks := func(sym int) bool { return !cfg.Has(g, sym) }
				if cfg.Right(g) {
					m := modelOf(g)
					isFirst(t, given, m.first, m.follow)
					if !slices.ContainsFunc(syms, lacks) {
						want = m.of(syms, 1<<31)
					}
				}
				if s := first.Of(given, syms, 1<<31); s != want {
					t.Fatalf("%v: %v: %b, not %b", g, syms, s, want)
				}
			}
			if !asWas() || !slices.Equal(room, []int{-1, -1, 0, -1, 55, 66}) {
				t.Fatal(given, g, room)
			}
		}
	}
}

// P12.1: an answer stays as it is when others are asked for.
func TestKept(t *testing.T) {
	var answers, were [][]uint32
	for _, g := range kinds() {
		for _, l := range [][]uint32{first.First(g), first.Follow(g)} {
			answers, were = append(answers, l), append(were, slices.Clone(l))
		}
	}
	for i, l := range answers {
		if !slices.Equal(l, were[i]) {
			t.Fatal(i, l, were[i])
		}
	}
}

// P12.1: what is answered is new memory: who writes into a list, or into its spare room, changes neither what was handed in nor another answer.
func TestNewMemory(t *testing.T) {
	for _, g := range kinds() {
		was := specimen.Copied(g)
		for range 2 {
			a, b := first.First(g), first.Follow(g)
			begins, follow := slices.Clone(a), slices.Clone(b)
			a = a[:cap(a)]
			for i := range a {
				a[i] = 77
			}
			if !slices.Equal(b, follow) || !slices.Equal(first.First(g), begins) {
				t.Fatal(was, b)
			}
			b = b[:cap(b)]
			for i := range b {
				b[i] = 88
			}
			if slices.Contains(a, 88) || !slices.Equal(first.Follow(g), follow) || !cfg.Same(g, was) {
				t.Fatal(was, a)
			}
		}
	}
}
