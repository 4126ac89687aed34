package look_test

import (
	"slices"
	"strconv"
	"strings"
	"testing"

	"gerund/api"
	"gerund/auto"
	"gerund/first"
	"gerund/look"
	"gerund/specimen"
)

// same: are they the same lookaheads?
func same(a, b [][]api.Look) bool {
	return slices.EqualFunc(a, b, slices.Equal[[]api.Look])
}

// isLooked holds a grammar's lookaheads to what they must be: the model's; and such as the chapter says.
func isLooked(t *testing.T, m model) [][]api.Look {
	t.Helper()
	l, e := look.Of(m.g)
	if e != m.err || !same(l, m.looks) {
		t.Fatalf("%v: %v %v, not %v %v", m.g, l, e, m.looks, m.err)
	}
	if e == api.OK {
		isEnded(t, m, l)
		isFollowed(t, m, l)
	}
	return l
}

// isEnded holds lookaheads to standing just where a rule has come to its end, each rule once in a state, rising.
func isEnded(t *testing.T, m model, l [][]api.Look) {
	t.Helper()
	if len(l) != len(m.states) {
		t.Fatalf("%v: %v: not %d states", m.g, l, len(m.states))
	}
	for n, looks := range l {
		ended := map[int]bool{}
		for _, x := range auto.Closure(m.g, m.states[n].Kernel) {
			if _, more := auto.Next(m.g, x); !more && x.Rule >= 0 {
				ended[x.Rule] = true
			}
		}
		if len(looks) != len(ended) {
			t.Fatalf("%v: state %d: %v, not %v", m.g, n, looks, ended)
		}
		for i, x := range looks {
			if !ended[x.Rule] || i > 0 && x.Rule <= looks[i-1].Rule {
				t.Fatalf("%v: state %d: %v, not %v", m.g, n, looks, ended)
			}
		}
	}
}

// isFollowed holds lookaheads to following their rule's Left, each rule to having some, each of these to having something; and, all of the grammar being of use, to being all that follows, those of all states together.
func isFollowed(t *testing.T, m model, l [][]api.Look) {
	t.Helper()
	follow, all := first.Follow(m.g), make([]uint32, len(m.g.Rules))
	for n, looks := range l {
		for _, x := range looks {
			if x.Set == 0 || x.Set&^follow[m.g.Rules[x.Rule].Left] != 0 {
				t.Fatalf("%v: state %d: %v: %b follow", m.g, n, x, follow)
			}
			all[x.Rule] |= x.Set
		}
	}
	for rule, s := range all {
		if s != follow[m.g.Rules[rule].Left] {
			t.Fatalf("%v: rule %d: %b, not %b", m.g, rule, s, follow[m.g.Rules[rule].Left])
		}
	}
}

// isRefused holds a grammar to having no lookaheads, for a reason.
func isRefused(t *testing.T, g api.Grammar, want api.Errno) {
	t.Helper()
	if l, e := look.Of(g); len(l) != 0 || e != want {
		t.Fatalf("%v: %v %v, not %v", g, l, e, want)
	}
}

// letter is that of a terminal whose name is a literal of one letter, and $ of the end.
func letter(g api.Grammar, term int) string {
	if term == len(g.Terms) {
		return "$"
	}
	return strings.Trim(g.Terms[term].Name, "'")
}

// lookText are a state's lookaheads as a text: rules, each with the letters of its set.
func lookText(g api.Grammar, l []api.Look) string {
	var texts []string
	for _, x := range l {
		text := strconv.Itoa(x.Rule) + ":"
		for term := range len(g.Terms) + 1 {
			if x.Set>>term&1 == 1 {
				text += letter(g, term)
			}
		}
		texts = append(texts, text)
	}
	return strings.Join(texts, " ")
}

// isTold holds grammars' lookaheads, and the model's, to what is told: a text for each state.
func isTold(t *testing.T, told map[string][]string) {
	t.Helper()
	specimen.IsTold(t, told, func(g api.Grammar) [][]api.Look { return isLooked(t, modelOf(g)) }, lookText)
}

// P16.1: told lookaheads: the end, and terminals, in one set; states of several ended rules, of one, of none, and of the rule -1 alone, which isn't told; rules without symbols, at the start, within, and at the end.
func TestTold(t *testing.T) {
	isTold(t, map[string][]string{
		// The chapter's example.
		"%% s : 'a' s | ;": {"1:$", "1:$", "", "0:$"},
		// No symbols; a terminal; rules that are alike; the start alone.
		"%% s : ;":               {"0:$", ""},
		"%% s : 'a' ;":           {"", "0:$", ""},
		"%% s : 'a' | 'a' | | ;": {"2:$ 3:$", "0:$ 1:$", ""},
		"%% s : s | 'a' ;":       {"", "1:$", "0:$"},
		// What leads back to itself: on the left, on both sides, within.
		"%% s : s 'a' | ;":             {"1:a$", "", "0:a$"},
		"%% s : s s | 'a' ;":           {"", "1:a$", "", "0:a$"},
		"%% s : 'a' s 'b' | ;":         {"1:$", "1:b", "", "", "0:b$"},
		"%% s : n s 'a' | 'b' ; n : ;": {"2:b", "1:a$", "", "2:b", "", "0:a$"},
		// By way of others.
		"%% s : t 'a' | 'b' ; t : u ; u : s 'c' | s ;":                 {"", "1:ac$", "4:a", "", "2:a", "3:a", "0:ac$"},
		"%% s : 'x' t | 'y' t 'z' ; t : 'a' u | 'b' ; u : 'c' t | ;":   {"", "", "", "", "5:z$", "3:z$", "0:$", "", "", "2:z$", "1:$", "4:z$"},
		"%% s : 'x' t 'p' | 'y' t 'q' ; t : u ; u : v | ; v : 'v' t ;": {"", "4:p", "4:q", "", "4:pq", "", "2:pq", "3:pq", "", "5:pq", "0:$", "1:$"},
		// The same rule without symbols again and again; one that lets what is behind it come.
		"%% s : n 'a' n 'b' n ; n : ;": {"1:a", "", "", "1:b", "", "1:$", "0:$"},
		"%% s : n n n ; n : | 'a' ;":   {"1:a$", "2:a$", "", "1:a$", "1:$", "0:$"},
		// The own set is told on over one symbol, and over several, by one nonterminal and by another one.
		"%% s : t n m ; t : 'a' ; n : 'b' | ; m : 'c' | ;":                       {"", "1:bc$", "", "3:c$", "2:c$", "5:$", "4:$", "0:$"},
		"%% s : t 'd' ; t : u n ; u : v n m ; v : 'a' ; n : 'b' | ; m : 'c' | ;": {"", "3:dbc", "", "", "5:d", "5:dbc", "0:$", "4:dbc", "1:d", "7:db", "6:db", "2:db"},
		// A rule that ends in two states, with sets that differ.
		"%% s : 'x' a 'p' | 'y' a 'q' | 'y' b ; a : 'z' ; b : 'z' ;": {"", "", "", "", "3:p", "", "3:q 4:$", "", "2:$", "0:$", "1:$"},
		// States that are come to by several ways have what each of these brings: also where no one way brings both, and where less follows than FOLLOW has.
		"%% s : 'a' a 'd' | 'b' b 'd' | 'a' b 'e' | 'b' a 'e' ; a : 'c' ; b : 'c' ;": {"", "", "", "", "4:de 5:de", "", "", "", "", "0:$", "2:$", "3:$", "1:$"},
		"%% s : l '=' r | r ; l : '*' r | 'i' ; r : l ;":                             {"", "", "3:=$", "", "4:$", "1:$", "4:=$", "2:=$", "", "0:$"},
		"%% e : e '+' t | t ; t : t '*' f | f ; f : '(' e ')' | 'n' ;":               {"", "", "5:+*)$", "", "1:+)$", "3:+*)$", "", "", "", "4:+*)$", "0:+)$", "2:+*)$"},
	})
}

// P16.1: told lookaheads of a start that isn't the first nonterminal, that stands in no Right, and in some; of terminals that no rule has, and of levels and %prec, which count for nothing.
func TestToldStarts(t *testing.T) {
	isTold(t, map[string][]string{
		"%start t %% s : 'a' ; t : s 'b' | s ;":                               {"", "0:b$", "2:$", "", "1:$"},
		"%start t %% s : t 'a' | 'b' ; t : s ;":                               {"", "1:a$", "2:a$", "", "0:a$"},
		"%start s %% s : t 'a' | 'b' ; t : s ;":                               {"", "1:a$", "2:a", "", "0:a$"},
		"%start u %% s : u ; t : s ; u : 'a' t | ;":                           {"3:$", "3:$", "", "1:$", "2:$", "0:$"},
		"%start n %% s : n 'a' | ; n : s 'b' | ;":                             {"1:b 3:a$", "", "", "2:a$", "0:b"},
		"%token 'u' %left '+' %nonassoc 'n' %% e : e '+' e %prec 'n' | 'n' ;": {"", "1:+$", "", "", "0:+$"},
		"%left '+' %token 'u' %% e : e '+' e | 'n' ; ":                        {"", "1:+$", "", "", "0:+$"},
	})
}

// P16.1: a grammar that may not be, in each way, has no lookaheads.
func TestMayNotBe(t *testing.T) {
	if l := isLooked(t, modelOf(specimen.Usable())); len(l) == 0 {
		t.Fatal(l)
	}
	for _, g := range specimen.Wrong() {
		isRefused(t, g, api.ErrArg)
	}
}

// P16.1: a grammar that may be and isn't reduced has none either; reduced, it has some, if its start is productive.
func TestNotReduced(t *testing.T) {
	l, reduced := specimen.Unreduced(t)
	for _, g := range l {
		isRefused(t, g, api.ErrArg)
	}
	for _, g := range reduced {
		if l := isLooked(t, modelOf(g)); len(l) == 0 {
			t.Error(g)
		}
	}
}

// P16.1: grammars of just 300 states have lookaheads, of one more none; where one isn't reduced either, that is told.
func TestMost(t *testing.T) {
	for states, g := range specimen.About300() {
		if states > 300 {
			isRefused(t, g, api.ErrMany)
		} else if l := isLooked(t, modelOf(g)); len(l) != states {
			t.Fatal(len(l), states)
		}
		isRefused(t, specimen.Useless(g), api.ErrArg)
	}
}
