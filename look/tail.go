package look

import (
	"gerund/api"
	"gerund/first"
)

// A tail is what is known of the symbols behind a nonterminal in a Right: what they begin with, and whether all of them may be nothing.
type tail struct {
	begins  uint32
	nothing bool
}

// of is what layer 12's Of tells of them, and a rest.
func (t tail) of(rest uint32) uint32 {
	if t.nothing {
		return t.begins | rest
	}
	return t.begins
}

// tailsOf are those behind the nonterminals of each rule's Right. Of is asked of each of them just once, for it goes through the whole grammar.
func tailsOf(g api.Grammar) [][]tail {
	// No symbol begins with the end, so it is told just where the rest is.
	rest := only(len(g.Terms))
	l := make([][]tail, len(g.Rules))
	for rule, r := range g.Rules {
		l[rule] = make([]tail, len(r.Right))
		for dot, sym := range r.Right {
			if isNon(sym) {
				s := first.Of(g, r.Right[dot+1:], rest)
				l[rule][dot] = tail{begins: s &^ rest, nothing: s&rest != 0}
			}
		}
	}
	return l
}
