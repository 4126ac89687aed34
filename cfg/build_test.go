package cfg_test

import (
	"fmt"
	"slices"
	"strings"
	"testing"

	"gerund/api"
	"gerund/cfg"
	"gerund/yacc"
)

// told is a grammar as a text: terminals with their levels, nonterminals, the start, rules with their Prec.
func told(g api.Grammar) string {
	var l []string
	for _, t := range g.Terms {
		l = append(l, t.Name+[]string{"", "<", ">", "!"}[t.Assoc]+strings.TrimPrefix(fmt.Sprint(t.Level), "0"))
	}
	all := strings.Join(l, " ") + "; " + strings.Join(g.Nons, " ") + fmt.Sprint("; ", g.Start)
	for _, r := range g.Rules {
		all += "; " + strings.ReplaceAll(fmt.Sprint(r.Left, r.Right, r.Prec), "[]", "-")
	}
	return all
}

// isBuilt holds a text's grammar to what is told of it.
func isBuilt(t *testing.T, text, want string) {
	t.Helper()
	if g, at, e := cfg.Read([]byte(text)); e != api.OK || at != 0 || told(g) != want || !cfg.Right(g) {
		t.Errorf("%q: %s %v %v, not %s", text, told(g), at, e, want)
	}
}

// isWrong holds a text to an error, at what is marked in it by a star ahead (the star is left out).
func isWrong(t *testing.T, text string, e api.Errno) {
	t.Helper()
	ahead, behind, marked := strings.Cut(text, "*")
	at := complex(float64(1+strings.Count(ahead, "\n")), float64(len(ahead)-strings.LastIndex(ahead, "\n")))
	if g, p, f := cfg.Read([]byte(ahead + behind)); !marked || f != e || p != at || !same(g, api.Grammar{}) {
		t.Errorf("%q: %v %v %v, not %v %v", text, g, p, f, at, e)
	}
}

// fails holds a source to an error and a place.
func fails(t *testing.T, s api.Source, at complex128, e api.Errno) {
	t.Helper()
	if g, p, f := cfg.Build(s); f != e || p != at || !same(g, api.Grammar{}) {
		t.Errorf("%v: %v %v %v, not %v %v", s, g, p, f, at, e)
	}
}

// hold holds what is answered of a source against what the model tells; and tells it.
func hold(t *testing.T, s api.Source) (api.Errno, string) {
	t.Helper()
	g, at, e := cfg.Build(s)
	want, wantAt, wantE, as := built(s)
	if e != wantE || at != wantAt || !same(g, want) {
		t.Fatalf("%v: %v %v %v, not %v %v %v", s, g, at, e, want, wantAt, wantE)
	}
	return e, as
}

// prods are rules without symbols, of these Lefts.
func prods(left ...string) []api.Prod {
	var l []api.Prod
	for _, r := range refs(left...) {
		l = append(l, api.Prod{Left: r})
	}
	return l
}

// declared is a source of a declaration of a kind, and a rule of e behind it.
func declared(kind int, names ...api.Ref) api.Source {
	return api.Source{Decls: []api.Decl{{Kind: kind, Names: names}}, Prods: prods("e")}
}

// P9.1: texts, and their grammars.
func TestRead(t *testing.T) {
	isBuilt(t, "%% s : 'a' s | ;", "'a'; s; 0; 0 [0 -1] 0; 0 - -1")
	isBuilt(t, "%%e:;", "; e; 0; 0 - -1")
	isBuilt(t, "%% e : | e e ; f : g ; g : e | f ;", "; e f g; 0; 0 - -1; 0 [-1 -1] -1; 1 [-3] -1; 2 [-1] -1; 2 [-2] -1")
	isBuilt(t, "%% e : f ; f : ; e : ; g : ; f : g ;", "; e f g; 0; 0 [-2] -1; 1 - -1; 0 - -1; 2 - -1; 1 [-3] -1")
	isBuilt(t, "%token B A 'c' %% e : A e 'd' B | 'c' ;", "B A 'c' 'd'; e; 0; 0 [1 -1 3 0] 0; 0 [2] 2")
	isBuilt(t, "%left A B %right 'c' %nonassoc D E %left F %% e : ;", "A<1 B<1 'c'>2 D!3 E!3 F<4; e; 0; 0 - -1")
	isBuilt(t, "%token X %left A %token Y B %start e %right B X %% e : ;", "X>2 A<1 Y B>2; e; 0; 0 - -1")
	isBuilt(t, "%nonassoc A %token A %% e : A ;", "A!1; e; 0; 0 [0] 0")
	isBuilt(t, "%token A %nonassoc A %% e : A ;", "A!1; e; 0; 0 [0] 0")
	isBuilt(t, "%start f %% e : f ; f : e ;", "; e f; 1; 0 [-2] -1; 1 [-1] -1")
	isBuilt(t, "%token A %start e %% f : ; e : A ;", "A; f e; 1; 0 - -1; 1 [0] 0")
	isBuilt(t, "%left A %% e : A B e %prec A | A %prec 'x' | %prec 'x' | e %prec A ; B : ;", "A<1 'x'; e B; 0; 0 [0 -2 -1] 0; 0 [0] 1; 0 - 1; 0 [-1] 0; 1 - -1")
	isBuilt(t, "%% e : e e e e e e | 'a' 'b' 'c' 'd' 'e' 'f' %prec 'g';", "'a' 'b' 'c' 'd' 'e' 'f' 'g'; e; 0; 0 [-1 -1 -1 -1 -1 -1] -1; 0 [0 1 2 3 4 5] 6")
	isBuilt(t, "%% e : 'a' f 'b' f ; f : 'b' 'a' ;", "'a' 'b'; e f; 0; 0 [0 -2 1 -2] 1; 1 [1 0] 0")
	isBuilt(t, `%% e : '\n' 'n' '\'' '"' ;`, `'\n' 'n' '\'' '"'; e; 0; 0 [0 1 2 3] 3`)
}

// P9.1: the name error is a terminal where it is used, but not where it is a nonterminal, or a start.
func TestReadError(t *testing.T) {
	isBuilt(t, "%% e : error 'a' | error ;", "error 'a'; e; 0; 0 [0 1] 1; 0 [0] 0")
	isBuilt(t, "%% e : 'a' %prec error ;", "'a' error; e; 0; 0 [0] 1")
	isBuilt(t, "%right error %% e : error ;", "error>1; e; 0; 0 [0] 0")
	isBuilt(t, "%token 'a' error %% e : error ;", "'a' error; e; 0; 0 [1] 1")
	isBuilt(t, "%% error : error | ;", "; error; 0; 0 [-1] -1; 0 - -1")
	isBuilt(t, "%start error %% e : error ; error : ;", "; e error; 1; 0 [-2] -1; 1 - -1")
	isWrong(t, "%start *error %% e : error ;", api.ErrStart)
	isWrong(t, "%% error : %prec *error ;", api.ErrName)
	isWrong(t, "%token error %% *error : ;", api.ErrTwice)
	for _, name := range []string{"errors", "Error", "erro", "error.", "error1"} {
		isWrong(t, "%% e : *"+name+" ;", api.ErrName)
		isWrong(t, "%% e : %prec *"+name+" ;", api.ErrName)
	}
}

// P9.1: layer 8's places and errors, and layer 7's.
func TestReadRefused(t *testing.T) {
	isWrong(t, "*", api.ErrEnd)
	isWrong(t, "%% *", api.ErrEnd)
	isWrong(t, "%% e : q\n*", api.ErrEnd)
	isWrong(t, "%% e : q ; *?", api.ErrForm)
	isWrong(t, "%% e : q ; *;", api.ErrForm)
	isWrong(t, "%token A A %% e : *{", api.ErrEnd)
	isWrong(t, "%token A A *; %% e : ;", api.ErrForm)
	isWrong(t, "%% e : *"+long(21)+" ;", api.ErrMany)
	isWrong(t, "%% *%% e : ;", api.ErrForm)
	for _, text := range []string{"", ";", "%%", "%% e : ; ?", "%token %%", "%start 'a' %% e : ;", "%% e", strings.Repeat(" ", 4001), "%% e : 'aa' ;"} {
		_, at, e := yacc.Parse([]byte(text))
		if g, p, f := cfg.Read([]byte(text)); e == api.OK || f != e || p != at || !same(g, api.Grammar{}) {
			t.Errorf("%q: %v %v %v, not %v %v", text, g, p, f, at, e)
		}
	}
	if g, at, e := cfg.Read(nil); e != api.ErrEnd || at != 1+1i || !same(g, api.Grammar{}) {
		t.Error(g, at, e)
	}
	isBuilt(t, "%% e : ;"+strings.Repeat(" ", 3992), "; e; 0; 0 - -1")
}

// P9.1: the first step, in texts.
func TestDecls(t *testing.T) {
	isWrong(t, "%token A *A %% e : ;", api.ErrTwice)
	isWrong(t, "%token A B\n%token C\n *A %% e : ;", api.ErrTwice)
	isWrong(t, "%token 'a' %left 'a' %token *'a' %% e : ;", api.ErrTwice)
	for _, first := range []string{"%left", "%right", "%nonassoc"} {
		isWrong(t, first+" A B *A %% e : ;", api.ErrTwice)
		for _, second := range []string{"%left", "%right", "%nonassoc"} {
			isWrong(t, first+" A %token B A "+second+" B *A %% e : ;", api.ErrTwice)
			isWrong(t, first+" 'a' "+second+" *'a' 'a' %% e : ;", api.ErrTwice)
		}
	}
	isWrong(t, "%start e %start *e %% e : ;", api.ErrTwice)
	isWrong(t, "%start e %token e %start *f %% e : ;", api.ErrTwice)
	isBuilt(t, "%token e.1 %start e %token e.2 %% e : ;", "e.1 e.2; e; 0; 0 - -1")
}

// P9.1: the second to the fourth step, in texts.
func TestRules(t *testing.T) {
	for _, kind := range []string{"%token", "%left", "%right", "%nonassoc"} {
		isWrong(t, kind+" e %% *e : ;", api.ErrTwice)
		isWrong(t, kind+" f %% e : q ; *f : ;", api.ErrTwice)
		isWrong(t, "%start *A "+kind+" A %% e : ;", api.ErrStart)
	}
	isWrong(t, "%% e : *q ;", api.ErrName)
	isWrong(t, "%% e : e 'a' | e *q e q ;", api.ErrName)
	isWrong(t, "%% e : %prec *e ;", api.ErrName)
	isWrong(t, "%% e : %prec *f ; f : ;", api.ErrName)
	isWrong(t, "%% e : 'a' %prec *q ;", api.ErrName)
	isWrong(t, "%% e : *q %prec e ;", api.ErrName)
	isWrong(t, "%% e : e e e e e e *e ;", api.ErrMany)
	isWrong(t, "%% e : e e e e e e *q ;", api.ErrMany)
	isWrong(t, "%% e : e e e e e e *'a' 'b' ;", api.ErrMany)
	isWrong(t, "%% e : 'a' 'b' 'c' 'd' 'e' 'f' *error %prec q ;", api.ErrMany)
	isWrong(t, "%% e : e e e e e *q e ;", api.ErrName)
	isWrong(t, "%% e : ; f : e e e e e e *f ;", api.ErrMany)
	isWrong(t, "%start *f %% e : ;", api.ErrStart)
	isWrong(t, "%start *A %% e : ;", api.ErrStart)
	isWrong(t, "%token A %start *A %% e : A ;", api.ErrStart)
}

// P9.1: what is wrong in an earlier step is told ahead of what is wrong in a later one, wherever it stands.
func TestSteps(t *testing.T) {
	isWrong(t, "%start f %token A *A e %% e : q ; e : e e e e e e e ;", api.ErrTwice)
	isWrong(t, "%start f %token A e %% f : q ; *e : e e e e e e e ;", api.ErrTwice)
	isWrong(t, "%start g %token A %% f : *q ; e : e e e e e e e ;", api.ErrName)
	isWrong(t, "%start g %token A %% f : ; e : e e e e e e *e ;", api.ErrMany)
	isWrong(t, "%start *g %token A %% f : ; e : e e e e e e ;", api.ErrStart)
	isBuilt(t, "%start g %token A %% f : ; g : f f f f f f ;", "A; f g; 1; 0 - -1; 1 [-1 -1 -1 -1 -1 -1] -1")
}

// P9.1: 24 terminals, and 25, wherever the last one stands.
func TestManyTerms(t *testing.T) {
	some := func(n int) string { return "%token " + strings.Join(numbered("T", n), " ") }
	for _, last := range []string{" X", " %token X", " %left X", " %left T0 X", " %nonassoc T1 %right T0 X", " 'x'", " error"} {
		if g, at, e := cfg.Read([]byte(some(23) + last + " %% e : ;")); e != api.OK || at != 0 || len(g.Terms) != 24 || !cfg.Right(g) {
			t.Error(last, at, e)
		}
		i := strings.LastIndex(last, " ") + 1
		isWrong(t, some(24)+last[:i]+"*"+last[i:]+" %% e : ;", api.ErrMany)
	}
	for _, last := range []string{"*'x'", "e T0 *'x'", "*error", "%prec *'x'", "T0 %prec *error", "| e e e e e *'x'", "T0 T1 T2 T3 T4 T5 %prec *'x'", "*'x' 'x'"} {
		text := strings.Replace(last, "*", "", 1)
		if g, at, e := cfg.Read([]byte(some(23) + " %% e : " + text + " ;")); e != api.OK || at != 0 || len(g.Terms) != 24 || !cfg.Right(g) {
			t.Error(last, at, e)
		}
		isWrong(t, some(24)+" %% e : "+last+" ;", api.ErrMany)
	}
	if g, at, e := cfg.Read([]byte(some(24) + " %left T0 %% e : T23 T0 %prec T1 | e ;")); e != api.OK || at != 0 || len(g.Terms) != 24 || !cfg.Right(g) {
		t.Error(g, at, e)
	}
	isWrong(t, some(24)+" %token *T5 %% e : ;", api.ErrTwice)
	isWrong(t, some(24)+" %left T5 *T5 %% e : ;", api.ErrTwice)
	isWrong(t, some(24)+" %% e : *q ;", api.ErrName)
	isWrong(t, some(24)+" %start *error %% e : ;", api.ErrStart)
}

// P9.1: 16 nonterminals, and 17; 40 rules, and 41.
func TestManyRules(t *testing.T) {
	heads := numbered("e", 17)
	groups := func(l []string) string { return strings.Join(l, " : ; ") + " : ; " }
	if g, at, e := cfg.Read([]byte("%% " + groups(heads[:16]) + "e0 : e15 ;")); e != api.OK || at != 0 || len(g.Nons) != 16 || !cfg.Right(g) {
		t.Error(g, at, e)
	}
	isWrong(t, "%% "+groups(heads[:16])+"*"+groups(heads[16:]), api.ErrMany)
	isWrong(t, "%% e0 : q ; "+groups(heads[:16])+"*"+groups(heads[16:]), api.ErrMany)
	isWrong(t, "%token e16 %% "+groups(heads[:16])+"*"+groups(heads[16:]), api.ErrTwice)
	bars := strings.Repeat("|", 39)
	if g, at, e := cfg.Read([]byte("%% e :" + bars + ";")); e != api.OK || at != 0 || len(g.Rules) != 40 || !cfg.Right(g) {
		t.Error(g, at, e)
	}
	isWrong(t, "%% *e :"+bars+"|;", api.ErrMany)
	isWrong(t, "%% e :"+bars+"; *e : ;", api.ErrMany)
	isWrong(t, "%% e :"+bars+"; *f : q ;", api.ErrMany)
	isWrong(t, "%start g %% e :"+bars+"; *f : ;", api.ErrMany)
	isWrong(t, "%% e :"+bars[1:]+"| *q ; f : ;", api.ErrName)
	isWrong(t, "%token f %% e :"+bars+"; e : ; *f : ;", api.ErrTwice)
	isWrong(t, "%% e :"+bars+"; "+groups(heads[:15])+" *"+groups(heads[15:]), api.ErrMany)
	l := slices.Repeat(prods("e"), 41)
	l[0].Left.At, l[39].Left.At, l[40].Left.At = 1, 39, 40i
	fails(t, api.Source{Prods: l}, 40i, api.ErrMany)
	l[40] = api.Prod{Left: api.Ref{Text: "'a'", At: 7}, Right: refs("")}
	fails(t, api.Source{Prods: l}, 7, api.ErrForm)
	l[40], l[39].Right = prods("e")[0], []api.Ref{{Text: "", At: 5}}
	fails(t, api.Source{Prods: l}, 5, api.ErrForm)
}

// P9.1: the most that a text may have of everything.
func TestMost(t *testing.T) {
	text := "%token " + strings.Join(numbered("T", 20), " ") + " %left T0 T1 %right T2 %nonassoc T3 '+' %start e15 %%"
	for i := range 40 {
		text += fmt.Sprintf(" e%d : e%d T%d '+' error T19 e15 %%prec '%c' ;", min(i, 15), i%16, i%20, "-*"[i%2])
	}
	g, at, e := cfg.Read([]byte(text))
	if e != api.OK || at != 0 || len(g.Terms) != 24 || len(g.Nons) != 16 || len(g.Rules) != 40 || len(g.Rules[39].Right) != 6 || g.Start != 15 || !cfg.Right(g) {
		t.Error(g, at, e)
	}
	if want := (api.Term{Name: "'+'", Level: 3, Assoc: api.AssocNon}); g.Terms[20] != want {
		t.Error(g.Terms)
	}
}

// P9.1: declarations of other kinds, with names and without.
func TestOtherKinds(t *testing.T) {
	for _, kind := range []int{0, 1, 2, 8, 9, 10, 11, 12, 13, -1, -3, 99, 1<<32 + 3, -1 << 63, 1<<63 - 1} {
		fails(t, declared(kind), 0, api.ErrForm)
		for _, text := range []string{"", "A", "'a'", "1", "e", "error"} {
			fails(t, declared(kind, api.Ref{Text: text, At: 5 - 3i}, api.Ref{Text: "B", At: 9}), 5-3i, api.ErrForm)
		}
		s := declared(api.TokToken, api.Ref{Text: "A"}, api.Ref{Text: "A", At: 8})
		s.Decls = append(s.Decls, api.Decl{Kind: kind})
		fails(t, s, 8, api.ErrTwice)
		slices.Reverse(s.Decls)
		fails(t, s, 0, api.ErrForm)
		s.Prods[0].Left = api.Ref{At: 9}
		s.Decls[0].Names = []api.Ref{{At: 3}}
		fails(t, s, 3, api.ErrForm)
	}
}

// wrongTexts are neither names nor literals.
func wrongTexts() []string {
	return []string{"", " ", "1", "1a", ".a", "%token", ";", "a b", "a ", " a", "a-b", "é", "a\x00", long(21), "'", "''", "'''", "'a", "a'", "'ab'", `'\'`, `'\x'`, "'\n'", "'\x7f'", "'é'", `"a"`, "'a''b'"}
}

// P9.1: references whose texts are neither names nor literals, wherever they stand; literals where a name must be.
func TestForms(t *testing.T) {
	for _, text := range wrongTexts() {
		r := api.Ref{Text: text, At: 4 + 2i}
		for _, kind := range []int{api.TokToken, api.TokLeft, api.TokRight, api.TokNon, api.TokStart} {
			fails(t, declared(kind, r), 4+2i, api.ErrForm)
			fails(t, declared(kind, append(refs("A"), r)...), 4+2i, api.ErrForm)
			fails(t, declared(kind, append(refs("A"), r, api.Ref{Text: "A"})...), 4+2i, api.ErrForm)
		}
		for _, right := range [][]api.Ref{{r}, append(refs("e", "'a'"), r), append(refs("e", "e", "e", "e", "e", "e"), r), {r, {Text: "q"}}, {r, r}} {
			fails(t, api.Source{Prods: []api.Prod{{Left: refs("e")[0], Right: right}}}, 4+2i, api.ErrForm)
		}
		fails(t, api.Source{Prods: []api.Prod{{Left: r, Right: refs("q")}}}, 4+2i, api.ErrForm)
		fails(t, api.Source{Prods: append(prods("e"), api.Prod{Left: r})}, 4+2i, api.ErrForm)
		if text != "" {
			fails(t, api.Source{Prods: []api.Prod{{Left: refs("e")[0], Right: refs("'a'"), Prec: r}}}, 4+2i, api.ErrForm)
		}
		seven := []api.Prod{{Left: refs("e")[0], Right: append(refs("e", "e", "e", "e", "e", "e"), api.Ref{Text: "e", At: 6}, r)}}
		fails(t, api.Source{Prods: seven}, 6, api.ErrMany)
	}
	for _, text := range literals() {
		r := api.Ref{Text: text, At: 4 + 2i}
		fails(t, declared(api.TokStart, r), 4+2i, api.ErrForm)
		fails(t, declared(api.TokStart, append(refs("e"), r)...), 4+2i, api.ErrForm)
		fails(t, api.Source{Prods: []api.Prod{{Left: r}}}, 4+2i, api.ErrForm)
		fails(t, api.Source{Decls: []api.Decl{{Kind: api.TokToken, Names: []api.Ref{r}}}, Prods: []api.Prod{{Left: r}}}, 4+2i, api.ErrForm)
	}
	heads := prods(numbered("e", 16)...)
	fails(t, api.Source{Prods: append(heads, api.Prod{Left: api.Ref{Text: "'a'", At: 2}})}, 2, api.ErrForm)
	named := declared(api.TokToken, refs(numbered("T", 24)...)...)
	named.Decls = append(named.Decls, api.Decl{Kind: api.TokLeft, Names: []api.Ref{{Text: "''", At: 2}}})
	fails(t, named, 2, api.ErrForm)
}

// P9.1: a Prec without a text is none, wherever it stands.
func TestNoPrec(t *testing.T) {
	s := api.Source{Prods: []api.Prod{{Left: refs("e")[0], Right: refs("'a'", "e"), Prec: api.Ref{At: 3}}, {Left: refs("e")[0], Prec: api.Ref{At: 4i}}}}
	if g, at, e := cfg.Build(s); e != api.OK || at != 0 || told(g) != "'a'; e; 0; 0 [0 -1] 0; 0 - -1" {
		t.Error(g, at, e)
	}
}

// P9.1: no rules, no declarations, none of both; starts without rules.
func TestNothing(t *testing.T) {
	fails(t, api.Source{}, 0, api.ErrStart)
	fails(t, api.Source{Decls: []api.Decl{}, Prods: []api.Prod{}}, 0, api.ErrStart)
	names := []api.Ref{{Text: "A", At: 3i}, {Text: "B", At: 5}}
	for _, kind := range []int{api.TokToken, api.TokLeft, api.TokRight, api.TokNon} {
		fails(t, api.Source{Decls: []api.Decl{{Kind: kind, Names: names}}}, 0, api.ErrStart)
		fails(t, api.Source{Decls: []api.Decl{{Kind: kind}}}, 0, api.ErrStart)
	}
	fails(t, api.Source{Decls: []api.Decl{{Kind: api.TokStart, Names: names[:1]}}}, 3i, api.ErrStart)
	fails(t, api.Source{Decls: []api.Decl{{Kind: api.TokToken, Names: names[1:]}, {Kind: api.TokStart, Names: names[:1]}}}, 3i, api.ErrStart)
	fails(t, api.Source{Decls: []api.Decl{{Kind: api.TokStart}}}, 0, api.ErrStart)
	g, at, e := cfg.Build(api.Source{Prods: []api.Prod{{Left: api.Ref{Text: "e", At: 1i}}}})
	if e != api.OK || at != 0 || told(g) != "; e; 0; 0 - -1" {
		t.Error(g, at, e)
	}
}

// P9.1: a start with several names is one too many; a declaration without names declares nothing.
func TestStarts(t *testing.T) {
	e, f := api.Ref{Text: "e", At: 1}, api.Ref{Text: "f", At: 2}
	fails(t, declared(api.TokStart, e, f), 2, api.ErrTwice)
	fails(t, declared(api.TokStart, f, e), 1, api.ErrTwice)
	fails(t, declared(api.TokStart, e, e), 1, api.ErrTwice)
	s := declared(api.TokStart)
	s.Prods = prods("f", "e")
	if g, at, no := cfg.Build(s); no != api.OK || at != 0 || g.Start != 0 {
		t.Error(g, at, no)
	}
	s.Decls = append(s.Decls, api.Decl{Kind: api.TokStart, Names: []api.Ref{e}}, api.Decl{Kind: api.TokStart})
	if g, at, no := cfg.Build(s); no != api.OK || at != 0 || g.Start != 1 {
		t.Error(g, at, no)
	}
}

// P9.1, P9.2: a declaration without names counts among the levels, so that a level is left out: such a grammar may not be, but where it is the last one.
func TestNoNames(t *testing.T) {
	for _, kind := range []int{api.TokLeft, api.TokRight, api.TokNon} {
		s := declared(kind)
		s.Decls = append(s.Decls, api.Decl{Kind: api.TokToken, Names: refs("B")}, api.Decl{Kind: api.TokRight, Names: refs("A")})
		if g, at, e := cfg.Build(s); e != api.OK || at != 0 || told(g) != "B A>2; e; 0; 0 - -1" || cfg.Right(g) {
			t.Error(g, at, e)
		}
		s.Decls = []api.Decl{s.Decls[2], s.Decls[0]}
		if g, at, e := cfg.Build(s); e != api.OK || at != 0 || told(g) != "A>1; e; 0; 0 - -1" || !cfg.Right(g) {
			t.Error(g, at, e)
		}
	}
	for _, kind := range []int{api.TokToken, api.TokStart} {
		s := declared(kind)
		s.Decls = append(s.Decls, api.Decl{Kind: api.TokRight, Names: refs("A")})
		if g, at, e := cfg.Build(s); e != api.OK || at != 0 || told(g) != "A>1; e; 0; 0 - -1" || !cfg.Right(g) {
			t.Error(g, at, e)
		}
	}
}

// P9.1: drawn sources, whole ones and such as were changed, against a model; each error comes at each kind of reference that may have it.
func TestBuildDrawn(t *testing.T) {
	d, seen := drawer(9), map[string]int{}
	for range 3000 {
		tokens, nons, rules := d.below(4), 1+d.below(4), d.below(8)
		switch d.below(8) {
		case 0, 1, 2:
			tokens = 20 + d.below(5)
		case 3:
			nons = 14 + d.below(4)
		case 4:
			rules = 38 + d.below(4)
		}
		s := d.source(tokens, nons, rules)
		for range 4 {
			e, as := hold(t, s)
			seen[fmt.Sprint(int(e), " ", as)]++
			s = d.changed(s)
		}
	}
	for _, x := range []string{"0 ", "3 " + asDecl, "7 " + asDecl, "5 " + asDecl, "3 " + asOther, "3 " + asLeft, "7 " + asLeft, "5 " + asLeft, "5 " + asMore, "3 " + asRight, "5 " + asRight, "6 " + asRight, "3 " + asPrec, "5 " + asPrec, "6 " + asPrec, "8 " + asStart} {
		if seen[x] < 10 {
			t.Error(x, seen)
		}
	}
}

// P9.1: what is handed in stays as it was, its spare room too, and the answer doesn't change with it.
func TestBuildApart(t *testing.T) {
	d, spare := drawer(3), api.Ref{Text: "spare", At: 3i}
	for range 300 {
		s := d.source(d.below(4), 1+d.below(3), d.below(8))
		if d.below(2) == 0 {
			s = d.changed(s)
		}
		was := copiedSource(s)
		full := copiedSource(s)
		full.Decls = append(full.Decls, api.Decl{Kind: 5, Names: []api.Ref{spare}})
		full.Prods = append(full.Prods, api.Prod{Left: spare})
		given := api.Source{Decls: full.Decls[:len(s.Decls)], Prods: full.Prods[:len(s.Prods)]}
		for i, x := range given.Decls {
			given.Decls[i].Names = append(x.Names, spare, spare)[:len(x.Names)]
		}
		for i, x := range given.Prods {
			given.Prods[i].Right = append(x.Right, spare, spare)[:len(x.Right)]
		}
		g, at, e := cfg.Build(given)
		again, atAgain, eAgain := cfg.Build(was)
		if e != eAgain || at != atAgain || !same(g, again) || !yacc.Same(given, was) {
			t.Fatal(s, given)
		}
		isSpare(t, full, spare)
		all(&full, func(r *api.Ref) { *r = api.Ref{Text: "gone"} })
		clear(full.Decls)
		clear(full.Prods)
		if !same(g, again) {
			t.Fatal(s, g)
		}
	}
}

// isSpare holds the room behind each list of a source to what was put there.
func isSpare(t *testing.T, full api.Source, spare api.Ref) {
	t.Helper()
	i, j := len(full.Decls)-1, len(full.Prods)-1
	if x := full.Decls[i]; x.Kind != 5 || len(x.Names) != 1 || x.Names[0] != spare || full.Prods[j].Left != spare {
		t.Fatal(full)
	}
	for _, x := range full.Decls[:i] {
		if more := x.Names[:len(x.Names)+2]; more[len(x.Names)] != spare || more[len(x.Names)+1] != spare {
			t.Fatal(full)
		}
	}
	for _, x := range full.Prods[:j] {
		if more := x.Right[:len(x.Right)+2]; more[len(x.Right)] != spare || more[len(x.Right)+1] != spare {
			t.Fatal(full)
		}
	}
}

// P9.1: no two lists of an answer share memory.
func TestOwnMemory(t *testing.T) {
	d := drawer(4)
	for range 100 {
		g, _, e := cfg.Build(d.source(3, 2, 9))
		if e != api.OK {
			continue
		}
		want := copied(g)
		for i, r := range g.Rules {
			_ = append(r.Right, 99, 98, 97, 96, 95, 94)
			clear(r.Right)
			clear(want.Rules[i].Right)
			if !same(g, want) {
				t.Fatal(g, want)
			}
		}
	}
}

// P9.2: a text's grammar may be, is the source's, and its names are found as its symbols.
func TestTextsMayBe(t *testing.T) {
	d, read, wrong := drawer(92), 0, 0
	for range 3000 {
		s := d.source(d.below(24), 1+d.below(16), d.below(40))
		text := []byte(d.written(s))
		parsed, _, no := yacc.Parse(text)
		g, at, e := cfg.Read(text)
		want, wantAt, wantE, _ := built(parsed)
		if no == api.OK && (e != wantE || at != wantAt || !same(g, want)) {
			t.Fatalf("%q: %v %v %v, not %v %v %v", text, g, at, e, want, wantAt, wantE)
		}
		if e != api.OK {
			wrong++
			continue
		}
		read++
		if !cfg.Right(g) || !mayBe(g) {
			t.Fatalf("%q: %v", text, g)
		}
		namesAreFound(t, parsed, g)
	}
	if read < 1000 || wrong < 100 {
		t.Error(read, wrong)
	}
}

// namesAreFound holds a source's names to the symbols of its grammar.
func namesAreFound(t *testing.T, s api.Source, g api.Grammar) {
	t.Helper()
	is := func(sym int, text string) {
		if n, ok := cfg.Find(g, text); !ok || n != sym || cfg.Name(g, sym) != text {
			t.Fatal(text, sym, n, ok, g)
		}
	}
	for i, p := range s.Prods {
		is(-1-g.Rules[i].Left, p.Left.Text)
		for j, r := range p.Right {
			is(g.Rules[i].Right[j], r.Text)
		}
		if p.Prec.Text != "" {
			is(g.Rules[i].Prec, p.Prec.Text)
		}
	}
	for _, x := range s.Decls {
		for _, r := range x.Names {
			if n, ok := cfg.Find(g, r.Text); !ok || (n < 0) != (x.Kind == api.TokStart) || n < 0 && n != -1-g.Start {
				t.Fatal(r, n, ok, g)
			}
		}
	}
}
