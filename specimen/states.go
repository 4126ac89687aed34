package specimen

import (
	"iter"
	"slices"

	"gerund/api"
)

// Remembering is a grammar whose states tell which of the last terminals of a word were B: of so many nonterminals behind the first one, links 1 to n, it has 2^(n+1) + 2n + 3 states. Link 0 goes on by A and B, or by B to link 1, each other one by A and B to the next one, and the last one ends. Its nonterminals are numbered in the order that is told.
func Remembering(links []int) api.Grammar {
	g := api.Grammar{Terms: Termed("A", "B", "C"), Nons: Numbered("e", len(links)), Start: links[0]}
	symbol := func(link int) int { return -1 - links[link] }
	for e := range links {
		switch link := slices.Index(links, e); link {
		case 0:
			g.Rules = append(g.Rules, Rule(e, 0, symbol(0)), Rule(e, 1, symbol(0)), Rule(e, 1, symbol(1)))
		case len(links) - 1:
			g.Rules = append(g.Rules, Rule(e, 0), Rule(e, 1))
		default:
			g.Rules = append(g.Rules, Rule(e, 0, symbol(link+1)), Rule(e, 1, symbol(link+1)))
		}
	}
	return g
}

// Remembered is how many states a remembering grammar has.
func Remembered(links int) int {
	n := links - 1
	return 1<<(n+1) + 2*n + 3
}

// Lengthened is a grammar with so many states more: each symbol of a new rule of the start, C ahead, has one of its own; where it has more than six, nonterminals stand for what is behind, and the last state of all is the end of that.
func Lengthened(g api.Grammar, more int) api.Grammar {
	g = Copied(g)
	left := g.Start
	for at := 0; at < more; at += 6 {
		right := slices.Repeat([]int{0}, min(6, more-at))
		if at == 0 {
			right[0] = 2
		}
		if more-at > 6 {
			right[5] = -1 - len(g.Nons)
		}
		g.Rules = append(g.Rules, Rule(left, right...))
		if left = len(g.Nons); more-at > 6 {
			g.Nons = append(g.Nons, "f"+g.Nons[left-1])
		}
	}
	return g
}

// Widened is a grammar with so many states more: each symbol of new rules of the start, ahead of each of which one more terminal stands, has one of its own. The rules stand ahead of the start's own ones, or behind all.
func Widened(g api.Grammar, more int, ahead bool) api.Grammar {
	g = Copied(g)
	for at := 0; at < more; at += 6 {
		right := slices.Repeat([]int{0}, min(6, more-at))
		right[0] = len(g.Terms)
		g.Terms = append(g.Terms, Termed("D"+g.Terms[len(g.Terms)-1].Name)...)
		r, to := Rule(g.Start, right...), len(g.Rules)
		if ahead {
			to = slices.IndexFunc(g.Rules, func(r api.Rule) bool { return r.Left == g.Start })
		}
		g.Rules = slices.Insert(g.Rules, to, r)
	}
	return g
}

// About300 are grammars of 299 to 302 states, by how many they have.
func About300() iter.Seq2[int, api.Grammar] {
	return func(yield func(int, api.Grammar) bool) {
		was := Remembered(8)
		for _, links := range Orders(8) {
			g := Remembering(links)
			for states := 299; states <= 302; states++ {
				if !yield(states, Lengthened(g, states-was)) || !yield(states, Widened(g, states-was, true)) {
					return
				}
			}
		}
	}
}

// Useless is a grammar with one more nonterminal, which is in no Right.
func Useless(g api.Grammar) api.Grammar {
	g = Copied(g)
	n := len(g.Nons)
	g.Nons, g.Rules = append(g.Nons, "u"), append(g.Rules, Rule(n, 0))
	return g
}

// Bent is a remembering grammar of up to 11 nonterminals, with a few symbols changed, and a few rules more, of the start.
func (d *Drawer) Bent() api.Grammar {
	g := Remembering(d.Order(5 + d.Below(7)))
	symbol := func() int { return d.Below(3+len(g.Nons)) - len(g.Nons) }
	for range d.Below(4) {
		r := &g.Rules[d.Below(len(g.Rules))]
		right := slices.Clone(r.Right)
		right[d.Below(len(right))] = symbol()
		*r = Rule(r.Left, right...)
	}
	for range d.Below(4) {
		right := make([]int, d.Below(7))
		for i := range right {
			right[i] = symbol()
		}
		g.Rules = append(g.Rules, Rule(g.Start, right...))
	}
	return g
}
