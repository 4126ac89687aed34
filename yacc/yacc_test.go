package yacc_test

import (
	"fmt"
	"math"
	"slices"
	"strings"
	"testing"

	"gerund/api"
	"gerund/lex"
	"gerund/place"
	"gerund/yacc"
)

// drawer is numbers that look like drawn ones.
type drawer uint64

// below is one of the numbers below n.
func (d *drawer) below(n int) int {
	*d = *d*6364136223846793005 + 1442695040888963407
	return int(*d>>33) % n
}

// of is one of some texts.
func (d *drawer) of(l ...string) string {
	return l[d.below(len(l))]
}

// end is a place behind tokens.
const end = 7 + 70i

// tokens are those of letters; each has a text and a place that no other one has.
func tokens(w string) []api.Token {
	var l []api.Token
	for i := range w {
		l = append(l, api.Token{Kind: kindOf(w[i]), Text: fmt.Sprint(w[i:i+1], i), At: complex(1, float64(i+1))})
	}
	return l
}

// same: are they the same, field by field?
func same(a, b api.Source) bool {
	return slices.EqualFunc(a.Decls, b.Decls, func(x, y api.Decl) bool { return x.Kind == y.Kind && slices.Equal(x.Names, y.Names) }) &&
		slices.EqualFunc(a.Prods, b.Prods, func(x, y api.Prod) bool {
			return x.Left == y.Left && slices.Equal(x.Right, y.Right) && x.Prec == y.Prec
		})
}

// hold holds what is answered of tokens against what a model tells.
func hold(t *testing.T, m model, l []api.Token) api.Errno {
	t.Helper()
	s, at, e := yacc.Of(l, end)
	want, wantAt, wantE := m.of(l, end)
	if e != wantE || at != wantAt || !same(s, want) {
		t.Fatalf("%s: %v %v %v, not %v %v %v", word(l), s, at, e, want, wantAt, wantE)
	}
	return e
}

// isWrong holds a text to an error at a column of its line.
func isWrong(t *testing.T, text string, at complex128, e api.Errno) {
	t.Helper()
	if s, p, f := yacc.Parse([]byte(text)); f != e || p != at || len(s.Decls)+len(s.Prods) != 0 {
		t.Errorf("%q: %v %v %v, not %v %v", text, s, p, f, at, e)
	}
}

// told is a source as a text, without places.
func told(s api.Source) string {
	var l []string
	for _, d := range s.Decls {
		l = append(l, fmt.Sprint(d.Kind)+names(d.Names))
	}
	for _, p := range s.Prods {
		w := p.Left.Text + ":" + names(p.Right)
		if p.Prec != (api.Ref{}) {
			w += " % " + p.Prec.Text
		}
		l = append(l, w)
	}
	return strings.Join(l, "; ")
}

// names are references' texts, a blank ahead of each.
func names(l []api.Ref) string {
	var s string
	for _, r := range l {
		s += " " + r.Text
	}
	return s
}

// inOrder are a source's references as they stand in the text; of a group's rules Left is one.
func inOrder(s api.Source) []api.Ref {
	var l []api.Ref
	for _, d := range s.Decls {
		l = append(l, d.Names...)
	}
	var left api.Ref
	for _, p := range s.Prods {
		if p.Left != left {
			l = append(l, p.Left)
		}
		left = p.Left
		l = append(l, p.Right...)
		if p.Prec != (api.Ref{}) {
			l = append(l, p.Prec)
		}
	}
	return l
}

// P8.1: texts, and what they say.
func TestParse(t *testing.T) {
	for text, want := range map[string]string{
		"%token N %% e : e '+' e | N ;":  "3 N; e: e '+' e; e: N",
		"%% e:;":                         "e:",
		"%%e:;%%":                        "e:",
		"%%e:;%%e:":                      "e:",
		"%% e : | ;":                     "e:; e:",
		"%% e : a | ;":                   "e: a; e:",
		"%% e : | a ;":                   "e:; e: a",
		"%% e : a | | b ;":               "e: a; e:; e: b",
		"%% e : a ; f : ; g : 'c' | d ;": "e: a; f:; g: 'c'; g: d",
		"%% e : ; e : e ;":               "e:; e: e",
		"%% s : 'a' s | ;":               "s: 'a' s; s:",
		"%token a 'b' c %left 'd' %right e f %nonassoc g %% h:;": "3 a 'b' c; 4 'd'; 5 e f; 6 g; h:",
		"%start e %% e : ;":                                        "7 e; e:",
		"%start e %start f %% e : ;":                               "7 e; 7 f; e:",
		"%token a %token a %left a a %% a : a ;":                   "3 a; 3 a; 4 a a; a: a",
		"%% e : %prec a ;":                                         "e: % a",
		"%% e : %prec 'a' | b %prec c | ;":                         "e: % 'a'; e: b % c; e:",
		"%% e : e 'x' f %prec '-' ;":                               "e: e 'x' f % '-'",
		"%token <n> N // a\n%% /* b */ e : N { f(); } %prec N {};": "3 N; e: N % N",
		"%% error : error ; token : prec ;":                        "error: error; token: prec",
		"%% e : a a a a a a a a a ;":                               "e: a a a a a a a a a",
	} {
		s, at, e := yacc.Parse([]byte(text))
		if e != api.OK || at != 0 || told(s) != want {
			t.Errorf("%q: %s, %v, %v", text, told(s), at, e)
		}
	}
}

// P8.1: each reference has its text, and its place; a rule without TokPrec has none there.
func TestFields(t *testing.T) {
	s, at, e := yacc.Parse([]byte("%token A 'b'\n%nonassoc\n '<'\n%start e\n\n%%\ne : e '<' e\n  | %prec 'b'\n  ;\n f:A%prec _x|;%%\n?"))
	want := api.Source{
		Decls: []api.Decl{
			{Kind: api.TokToken, Names: []api.Ref{{Text: "A", At: 1 + 8i}, {Text: "'b'", At: 1 + 10i}}},
			{Kind: api.TokNon, Names: []api.Ref{{Text: "'<'", At: 3 + 2i}}},
			{Kind: api.TokStart, Names: []api.Ref{{Text: "e", At: 4 + 8i}}},
		},
		Prods: []api.Prod{
			{Left: api.Ref{Text: "e", At: 7 + 1i}, Right: []api.Ref{{Text: "e", At: 7 + 5i}, {Text: "'<'", At: 7 + 7i}, {Text: "e", At: 7 + 11i}}},
			{Left: api.Ref{Text: "e", At: 7 + 1i}, Prec: api.Ref{Text: "'b'", At: 8 + 11i}},
			{Left: api.Ref{Text: "f", At: 10 + 2i}, Right: []api.Ref{{Text: "A", At: 10 + 4i}}, Prec: api.Ref{Text: "_x", At: 10 + 11i}},
			{Left: api.Ref{Text: "f", At: 10 + 2i}},
		},
	}
	if e != api.OK || at != 0 || !same(s, want) {
		t.Error(s, at, e)
	}
}

// P8.1: declarations that are none.
func TestWrongDecls(t *testing.T) {
	for _, d := range []string{"%token", "%left", "%right", "%nonassoc", "%start"} {
		col := float64(len(d) + 2)
		isWrong(t, d, complex(1, col-1), api.ErrEnd)
		isWrong(t, d+" ", complex(1, col), api.ErrEnd)
		for _, s := range []string{"%%", "%token a", "%left", "%start a", "%prec", ":", "|", ";"} {
			isWrong(t, d+" "+s+" %% e:;", complex(1, col), api.ErrForm)
			isWrong(t, "%token N\n%start e\n "+d+"\n\n"+s+"\n%% e:;", 5+1i, api.ErrForm)
		}
		for _, s := range []string{":", "|", ";", "%prec"} {
			isWrong(t, d+" a "+s+" %% e:;", complex(1, col+2), api.ErrForm)
			isWrong(t, s+" "+d+" a %% e:;", 1+1i, api.ErrForm)
		}
		isWrong(t, d+" a", complex(1, col+1), api.ErrEnd)
		isWrong(t, d+" a %%", complex(1, col+4), api.ErrEnd)
		isWrong(t, d+" a %% %token b", complex(1, col+5), api.ErrForm)
	}
	isWrong(t, "%start 'a' %% e:;", 1+8i, api.ErrForm)
	isWrong(t, "%start e 'a' %% e:;", 1+10i, api.ErrForm)
	isWrong(t, "%start e f %% e:;", 1+10i, api.ErrForm)
	isWrong(t, "%start %start e %% e:;", 1+8i, api.ErrForm)
	isWrong(t, "a %% e:;", 1+1i, api.ErrForm)
	isWrong(t, "'a' %% e:;", 1+1i, api.ErrForm)
	isWrong(t, "e : ;", 1+1i, api.ErrForm)
	isWrong(t, "e : %% e : ;", 1+1i, api.ErrForm)
}

// P8.1: groups that are none, and what may not be behind them.
func TestWrongGroups(t *testing.T) {
	for text, at := range map[string]complex128{
		"":                 1 + 1i,
		" \n":              2 + 1i,
		"%%":               1 + 3i,
		"%% e":             1 + 5i,
		"%% e :":           1 + 7i,
		"%% e : a":         1 + 9i,
		"%% e : 'a' %prec": 1 + 17i,
		"%% e : %prec a":   1 + 15i,
		"%% e : a |":       1 + 11i,
		"%% e : a ; f":     1 + 13i,
		"%% e : a ; f :\n": 2 + 1i,
		"%% e : a {;} ":    1 + 14i,
	} {
		isWrong(t, text, at, api.ErrEnd)
	}
	for text, at := range map[string]complex128{
		"%% %%":                    1 + 4i,
		"%% %% e : ;":              1 + 4i,
		"%% 'a' : ;":               1 + 4i,
		"%% : ;":                   1 + 4i,
		"%% ;":                     1 + 4i,
		"%% | a ;":                 1 + 4i,
		"%% %prec a":               1 + 4i,
		"%% %start e":              1 + 4i,
		"%% e ;":                   1 + 6i,
		"%% e a : ;":               1 + 6i,
		"%% e | a ;":               1 + 6i,
		"%% e 'a' ;":               1 + 6i,
		"%% e %% : ;":              1 + 6i,
		"%% e %prec a : ;":         1 + 6i,
		"%% e : : ;":               1 + 8i,
		"%% e : %% ;":              1 + 8i,
		"%% e : %token a ;":        1 + 8i,
		"%% e : a : ;":             1 + 10i,
		"%% e : a f : b ;":         1 + 12i,
		"%% e : a %% f : b ;":      1 + 10i,
		"%% e : a %left ;":         1 + 10i,
		"%% e : | : ;":             1 + 10i,
		"%% e : a %prec ;":         1 + 16i,
		"%% e : %prec | a ;":       1 + 14i,
		"%% e : %prec : ;":         1 + 14i,
		"%% e : %prec %% ;":        1 + 14i,
		"%% e : %prec %prec a;":    1 + 14i,
		"%% e : %prec a b ;":       1 + 16i,
		"%% e : %prec a 'b' ;":     1 + 16i,
		"%% e : %prec a %prec a ;": 1 + 16i,
		"%% e : %prec a : ;":       1 + 16i,
		"%% e : %prec a %%":        1 + 16i,
		"%% e : ; ;":               1 + 10i,
		"%% e : ; | b ;":           1 + 10i,
		"%% e : ; 'a' : ;":         1 + 10i,
		"%% e : ; : ;":             1 + 10i,
		"%% e : ; %token a":        1 + 10i,
		"%% e : ; %prec a":         1 + 10i,
		"%% e : ; f ; g : ;":       1 + 12i,
		"%% e : ;\nf : 'a' : ;":    2 + 9i,
	} {
		isWrong(t, text, at, api.ErrForm)
	}
}

// P8.1: what layer 7 refuses has its place and its error, also where what is ahead of it could not stand there.
func TestRefused(t *testing.T) {
	for text, e := range map[string]api.Errno{
		"%% e : ?": api.ErrForm, "; ?": api.ErrForm, "%% e : 'ab' ;": api.ErrForm, "%% e : {": api.ErrEnd, "a : '": api.ErrEnd,
		"%token <a\n>": api.ErrEnd, "%% e : /* ;": api.ErrEnd, "%type a": api.ErrForm, "%% e : " + strings.Repeat("a", 21) + ";": api.ErrMany,
		strings.Repeat(" ", 4001): api.ErrMany, "%% e : ;" + strings.Repeat(" ", 3993): api.ErrMany,
	} {
		l, at, f := lex.Tokens([]byte(text))
		if f != e || len(l) != 0 {
			t.Fatalf("%q: %v %v", text, l, f)
		}
		isWrong(t, text, at, e)
	}
	if s, at, e := yacc.Parse([]byte("%% e : ;" + strings.Repeat(" ", 3992))); e != api.OK || at != 0 || told(s) != "e:" {
		t.Error(s, at, e)
	}
	if s, at, e := yacc.Parse([]byte("%% e : ; %% ? ' { %{")); e != api.OK || at != 0 || told(s) != "e:" {
		t.Error(s, at, e)
	}
	if s, at, e := yacc.Parse(nil); e != api.ErrEnd || at != 1+1i || !same(s, api.Source{}) {
		t.Error(s, at, e)
	}
}

// P8.1: no tokens, and ends that may be anything.
func TestEnd(t *testing.T) {
	for _, p := range []complex128{0, 1, -3i, 1 + 1i, 2.5 - 7i, complex(math.Inf(1), math.Inf(-1))} {
		for _, l := range [][]api.Token{nil, {}, tokens("m"), tokens("tnm"), tokens("t"), tokens("mnc"), tokens("mncnlp"), tokens("mnc;n")} {
			if s, at, e := yacc.Of(l, p); e != api.ErrEnd || at != p || !same(s, api.Source{}) {
				t.Error(word(l), s, at, e)
			}
		}
		for _, l := range [][]api.Token{tokens("mnc;"), tokens("mnc;m"), tokens("snmnc;")} {
			if s, at, e := yacc.Of(l, p); e != api.OK || at != 0 || len(s.Prods) != 1 {
				t.Error(word(l), s, at, e)
			}
		}
		l := tokens("mncc;")
		l[3].At = p
		if s, at, e := yacc.Of(l, end); e != api.ErrForm || at != p || !same(s, api.Source{}) {
			t.Error(s, at, e)
		}
	}
}

// P8.1: tokens of other kinds than layer 7's stand nowhere.
func TestOtherKinds(t *testing.T) {
	for _, kind := range []int{0, -1, 13, 14, 99, math.MinInt, math.MaxInt, 1 << 32, 1<<32 + 1} {
		for w := range strings.FieldsSeq("mnc; tntnmncnlpn;nc;m Rllmncbbpnblpnbn;m tnLlRnNlsnmncnlnplbb;nc;m") {
			whole := tokens(w)
			for i := range len(whole) + 1 {
				l := slices.Insert(slices.Clone(whole), i, api.Token{Kind: kind, Text: "e", At: 3 + 33i})
				if s, at, e := yacc.Of(l, end); e != api.ErrForm || at != 3+33i || !same(s, api.Source{}) {
					t.Error(word(l), i, kind, s, at, e)
				}
			}
		}
	}
}

// P8.1: texts of tokens may be any, also none, and texts of signs count for nothing.
func TestTexts(t *testing.T) {
	l := []api.Token{{Kind: api.TokToken, Text: "%left"}, {Kind: api.TokLiteral}, {Kind: api.TokMark, Text: "e", At: 9}, {Kind: api.TokName, Text: "\xff '"}, {Kind: api.TokColon, Text: ";"}, {Kind: api.TokPrec, Text: "p", At: 5}, {Kind: api.TokName}, {Kind: api.TokBar, Text: "q"}, {Kind: api.TokLiteral, Text: "e", At: -1i}, {Kind: api.TokSemi, Text: "r"}}
	s, at, e := yacc.Of(l, end)
	want := api.Source{Decls: []api.Decl{{Kind: api.TokToken, Names: []api.Ref{{}}}}, Prods: []api.Prod{{Left: api.Ref{Text: "\xff '"}}, {Left: api.Ref{Text: "\xff '"}, Right: []api.Ref{{Text: "e", At: -1i}}}}}
	if e != api.OK || at != 0 || !same(s, want) {
		t.Error(s, at, e)
	}
}

// P8.1: all tokens that a source begins with, and each kind behind them, against a model.
func TestShortTokens(t *testing.T) {
	m, last, sources := newModel(), []string{""}, 0
	hold(t, m, nil)
	for range 8 {
		var longer []string
		for _, w := range last {
			for _, c := range letters + "?" {
				l := tokens(w + string(c))
				if e := hold(t, m, l); e != api.ErrForm {
					longer = append(longer, word(l))
				} else {
					hold(t, m, append(l, tokens("mnc;")...))
				}
				if m.whole.MatchString(word(l)) {
					sources++
				}
			}
		}
		last = longer
	}
	if sources < 500 {
		t.Error(sources)
	}
}

// source is letters of one that is drawn.
func source(d *drawer) string {
	var w strings.Builder
	for range d.below(6) {
		w.WriteString(d.of("sn", "tn", "tl", "Ln", "Ll", "Rl", "Nn"))
		for range d.below(4) {
			if !strings.HasSuffix(w.String(), "sn") {
				w.WriteString(d.of("n", "l"))
			}
		}
	}
	w.WriteString("m")
	for range d.below(5) + 1 {
		w.WriteString("nc")
		for i := range d.below(4) + 1 {
			w.WriteString("b"[:min(i, 1)])
			for range d.below(8) {
				w.WriteString(d.of("n", "l"))
			}
			w.WriteString(d.of("", "", "pn", "pl"))
		}
		w.WriteString(";")
	}
	return w.String() + d.of("", "m")
}

// P8.1: long tokens, whole ones, and such as have one too few, one too many, another one, or two changed with one another.
func TestDrawnTokens(t *testing.T) {
	m, d := newModel(), drawer(8)
	for range 600 {
		w := source(&d)
		if e := hold(t, m, tokens(w)); e != api.OK {
			t.Fatal(w, e)
		}
		i := d.below(len(w))
		c := string((letters + "?")[d.below(len(letters)+1)])
		hold(t, m, tokens(w[:i]))
		hold(t, m, tokens(w[:i]+w[i+1:]))
		hold(t, m, tokens(w[:i]+c+w[i:]))
		hold(t, m, tokens(w[:i]+c+w[i+1:]))
		hold(t, m, tokens(w+c))
		if j := d.below(len(w)); i < j {
			hold(t, m, tokens(w[:i]+w[j:j+1]+w[i+1:j]+w[i:i+1]+w[j+1:]))
		}
	}
}

// written is a text of letters' tokens, with what is skipped between them.
func written(d *drawer, w string) string {
	words := map[byte]string{'t': "%token", 'L': "%left", 'R': "%right", 'N': "%nonassoc", 's': "%start", 'p': "%prec", 'm': "%%", 'c': ":", 'b': "|", ';': ";"}
	var b strings.Builder
	for i := range w {
		switch w[i] {
		case 'n':
			b.WriteString(d.of("e", "a.b", "_", "N1", "token", "long_name_of_20_bytes"[:20]))
		case 'l':
			b.WriteString(d.of("'a'", `'\n'`, `'\''`, "';'", "'%'", "' '", "'|'"))
		default:
			b.WriteString(words[w[i]])
		}
		b.WriteString(d.of(" ", "\n", "\t\r\n", " // a ;\n", "/* %% */", " {}", "{ ';' }", "<a>", "%{ : %}\n", "{ {}\n }") + d.of("", "", "\n\n", "/* ; */"))
	}
	return b.String()
}

// namesOf are the references of all names and literals.
func namesOf(l []api.Token) []api.Ref {
	return refs(slices.DeleteFunc(slices.Clone(l), func(x api.Token) bool { return x.Kind != api.TokName && x.Kind != api.TokLiteral }))
}

// P8.2: a source's references are those of the tokens, in that order, and each one's text stands at its place.
func TestInOrder(t *testing.T) {
	d := drawer(82)
	for range 400 {
		w := source(&d)
		s, _, e := yacc.Of(tokens(w), end)
		if e != api.OK || !slices.Equal(inOrder(s), namesOf(tokens(w))) {
			t.Fatal(w, s, e)
		}
		b := []byte(written(&d, w))
		if len(b) > api.MaxSource {
			continue
		}
		s, at, e := yacc.Parse(b)
		l, _, _ := lex.Tokens(b)
		if e != api.OK || at != 0 || word(l) != w || !slices.Equal(inOrder(s), namesOf(l)) {
			t.Fatalf("%q: %v %v %v", b, s, at, e)
		}
		i, ahead := 0, complex128(0)
		for _, r := range inOrder(s) {
			for place.At(b, i) != r.At {
				i++
			}
			if !strings.HasPrefix(string(b[i:]), r.Text) || ahead != 0 && !place.Before(ahead, r.At) {
				t.Fatalf("%q: %v", b, r)
			}
			ahead = r.At
		}
	}
}

// P8.1, P8.2: a text with one token changed is answered as its tokens are.
func TestParseAsOf(t *testing.T) {
	m, d := newModel(), drawer(81)
	for range 600 {
		w := source(&d)
		i := d.below(len(w))
		b := []byte(written(&d, w[:i]+string(letters[d.below(len(letters))])+w[i+d.below(2):]))
		l, behind, e := lex.Tokens(b)
		if e != api.OK {
			continue
		}
		want, wantAt, wantE := m.of(l, behind)
		if s, at, e := yacc.Parse(b); e != wantE || at != wantAt || !same(s, want) {
			t.Fatalf("%q: %v %v %v, not %v %v %v", b, s, at, e, want, wantAt, wantE)
		}
	}
}

// copied is the same source, that shares nothing with s.
func copied(s api.Source) api.Source {
	var c api.Source
	for _, d := range s.Decls {
		c.Decls = append(c.Decls, api.Decl{Kind: d.Kind, Names: slices.Clone(d.Names)})
	}
	for _, p := range s.Prods {
		c.Prods = append(c.Prods, api.Prod{Left: p.Left, Right: slices.Clone(p.Right), Prec: p.Prec})
	}
	return c
}

// changed are ways to change a list of references: each text, each place's parts, one more, one less, two changed with one another.
func changed(l []api.Ref) [][]api.Ref {
	all := [][]api.Ref{append(slices.Clone(l), api.Ref{}), append([]api.Ref{{}}, l...)}
	for i := range l {
		for _, r := range otherRefs(l[i]) {
			c := slices.Clone(l)
			c[i] = r
			all = append(all, c)
		}
		all = append(all, slices.Delete(slices.Clone(l), i, i+1))
	}
	if len(l) > 1 && l[0] != l[1] {
		c := slices.Clone(l)
		c[0], c[1] = c[1], c[0]
		all = append(all, c)
	}
	return all
}

// otherRefs are unlike r in one thing.
func otherRefs(r api.Ref) []api.Ref {
	return []api.Ref{{Text: r.Text + "a", At: r.At}, {Text: "a" + r.Text, At: r.At}, {Text: r.Text, At: r.At + 1}, {Text: r.Text, At: r.At + 1i}, {Text: r.Text, At: r.At - 1}, {Text: r.Text, At: r.At + 0.5i}}
}

// others are sources that are unlike s in one thing.
func others(s api.Source) []api.Source {
	var all []api.Source
	add := func(change func(*api.Source)) {
		c := copied(s)
		change(&c)
		all = append(all, c)
	}
	add(func(c *api.Source) { c.Decls = append(c.Decls, api.Decl{}) })
	add(func(c *api.Source) { c.Prods = append(c.Prods, api.Prod{}) })
	for i, x := range s.Decls {
		add(func(c *api.Source) { c.Decls = slices.Delete(c.Decls, i, i+1) })
		add(func(c *api.Source) { c.Decls[i].Kind++ })
		add(func(c *api.Source) { c.Decls[i].Kind = -x.Kind })
		for _, l := range changed(x.Names) {
			add(func(c *api.Source) { c.Decls[i].Names = l })
		}
	}
	for i, x := range s.Prods {
		add(func(c *api.Source) { c.Prods = slices.Delete(c.Prods, i, i+1) })
		for _, l := range changed(x.Right) {
			add(func(c *api.Source) { c.Prods[i].Right = l })
		}
		for _, r := range otherRefs(x.Left) {
			add(func(c *api.Source) { c.Prods[i].Left = r })
		}
		for _, r := range otherRefs(x.Prec) {
			add(func(c *api.Source) { c.Prods[i].Prec = r })
		}
	}
	return all
}

// P8.1: sources that are the same, and such as differ in one text, one kind, one place, one length.
func TestSame(t *testing.T) {
	d := drawer(18)
	for range 60 {
		s, _, e := yacc.Of(tokens(source(&d)), end)
		if e != api.OK || !yacc.Same(s, s) || !yacc.Same(s, copied(s)) || !yacc.Same(copied(s), s) {
			t.Fatal(s, e)
		}
		for _, x := range others(s) {
			if yacc.Same(s, x) || yacc.Same(x, s) {
				t.Fatal(s, x)
			}
		}
	}
}

// P8.1: sources that no text has are the same or not, too; a list that holds nothing may be nil or empty.
func TestSameOfAny(t *testing.T) {
	r := api.Ref{Text: "a", At: 1}
	l := []api.Source{
		{},
		{Decls: []api.Decl{{}}}, {Decls: []api.Decl{{}, {}}}, {Decls: []api.Decl{{Kind: -5}}}, {Decls: []api.Decl{{Names: []api.Ref{{}}}}}, {Decls: []api.Decl{{Names: []api.Ref{r}}}}, {Decls: []api.Decl{{Names: []api.Ref{r}}, {}}}, {Decls: []api.Decl{{}, {Names: []api.Ref{r}}}},
		{Prods: []api.Prod{{}}}, {Prods: []api.Prod{{}, {}}}, {Prods: []api.Prod{{Left: r}}}, {Prods: []api.Prod{{Prec: r}}}, {Prods: []api.Prod{{Right: []api.Ref{r}}}}, {Prods: []api.Prod{{Left: r, Right: []api.Ref{r}}}}, {Prods: []api.Prod{{Right: []api.Ref{r}, Prec: r}}}, {Prods: []api.Prod{{Right: []api.Ref{r, {}}}}}, {Prods: []api.Prod{{Right: []api.Ref{{}, r}}}},
		{Decls: []api.Decl{{}}, Prods: []api.Prod{{}}},
	}
	for i, a := range l {
		for j, b := range l {
			if yacc.Same(a, b) != (i == j) {
				t.Error(a, b)
			}
		}
	}
	empty := api.Source{Decls: []api.Decl{}, Prods: []api.Prod{}}
	if !yacc.Same(empty, api.Source{}) || !yacc.Same(api.Source{}, empty) {
		t.Error("empty")
	}
	empty = api.Source{Decls: []api.Decl{{Names: []api.Ref{}}}, Prods: []api.Prod{{Right: []api.Ref{}}}}
	if bare := (api.Source{Decls: []api.Decl{{}}, Prods: []api.Prod{{}}}); !yacc.Same(empty, bare) || !yacc.Same(bare, empty) {
		t.Error("empty in it")
	}
}

// P8.1: what is handed in stays as it was, its spare room too.
func TestLeftAsItWas(t *testing.T) {
	d := drawer(1)
	spare := api.Token{Kind: 5, Text: "spare", At: 3i}
	for range 200 {
		w := source(&d)
		w = w[:d.below(len(w))] + d.of("", "n", ";", "m", "?") + w[d.below(len(w)):]
		l := append(tokens(w), spare, spare)
		yacc.Of(l[:len(w)], end)
		if !slices.Equal(l, append(tokens(w), spare, spare)) {
			t.Fatal(w)
		}
		text := written(&d, w)
		b := append([]byte(text), "%% spare"...)
		yacc.Parse(b[:len(text)])
		if string(b) != text+"%% spare" {
			t.Fatalf("%q", text)
		}
	}
	s, _, _ := yacc.Of(tokens(source(&d)), end)
	for _, x := range append(others(s), s) {
		was, wasS := copied(x), copied(s)
		yacc.Same(s, x)
		if !same(x, was) || !same(s, wasS) {
			t.Fatal(x, was)
		}
	}
}

// P8.1: an answer shares nothing with what was handed in, and no two lists of it with one another.
func TestOwnMemory(t *testing.T) {
	d := drawer(2)
	for range 100 {
		w := source(&d)
		l := tokens(w)
		s, _, _ := yacc.Of(l, end)
		was := copied(s)
		clear(l)
		text := []byte(written(&d, w))
		if parsed, _, e := yacc.Parse(text); e == api.OK {
			kept := copied(parsed)
			clear(text)
			if !same(parsed, kept) {
				t.Fatal(parsed, kept)
			}
		}
		for _, x := range s.Decls {
			_ = append(x.Names, api.Ref{Text: "more"}, api.Ref{})
		}
		for _, x := range s.Prods {
			_ = append(x.Right, api.Ref{Text: "more"}, api.Ref{})
		}
		if !same(s, was) {
			t.Fatal(s, was)
		}
		again, _, e := yacc.Of(tokens(w), end)
		if e != api.OK || !same(again, was) {
			t.Fatal(again, was)
		}
	}
}
