package show_test

import (
	"fmt"
	"hash/crc32"
	"slices"
	"strings"
	"testing"

	"gerund/api"
	"gerund/cfg"
	"gerund/show"
	"gerund/specimen"
)

// smallText is the small grammar's text.
const smallText = "%token A\n%token U\n%token '+'\n%token error\n%token '-'\n%left '+' '-'\n%right U\n%nonassoc error\n%start f\n%%\n" +
	"e : e '+' f ;\nf : '-' f %prec U ;\nf : ;\ne : f f %prec A ;\nf : A ;\n"

// isShown holds a grammar to its text and the text's sum, and the text to the grammar that is read of it.
func isShown(t *testing.T, g api.Grammar, want string) {
	t.Helper()
	s, e := show.Print(g)
	n, f := show.Digest(g)
	if s != want || e != api.OK || n != crc32.ChecksumIEEE([]byte(want)) || f != api.OK {
		t.Fatalf("%v: %q %v, %x %v, not %q", g, s, e, n, f, want)
	}
	k, at, e := cfg.Read([]byte(s))
	if e != api.OK || at != 0 || !same(k, g) || !cfg.Same(k, g) {
		t.Fatalf("%q: %v %v %v, not %v", s, k, at, e, g)
	}
}

// isRefused holds a grammar to an error.
func isRefused(t *testing.T, g api.Grammar, want api.Errno) {
	t.Helper()
	if s, e := show.Print(g); s != "" || e != want {
		t.Fatalf("%v: %q %v, not %d", g, s, e, want)
	}
	if n, e := show.Digest(g); n != 0 || e != want {
		t.Fatalf("%v: %x %v, not %d", g, n, e, want)
	}
}

// ruled is a grammar of the terminals A, 'b' and C, and the nonterminals e and f, with one rule of f that is told.
func ruled(prec int, right ...int) api.Grammar {
	return api.Grammar{Terms: specimen.Termed("A", "'b'", "C"), Nons: []string{"e", "f"}, Rules: []api.Rule{{Left: 0, Prec: -1}, {Left: 1, Right: right, Prec: prec}}}
}

// P10.1, P10.2: the chapter's example, a grammar of everything something, the least grammar.
func TestPrint(t *testing.T) {
	isShown(t, api.Grammar{Terms: specimen.Termed("'a'"), Nons: []string{"s"}, Rules: []api.Rule{{Right: []int{0, -1}, Prec: 0}, {Prec: -1}}}, "%token 'a'\n%start s\n%%\ns : 'a' s ;\ns : ;\n")
	isShown(t, specimen.Small(), smallText)
	isShown(t, api.Grammar{Nons: []string{"s"}, Rules: []api.Rule{{Prec: -1}}}, "%start s\n%%\ns : ;\n")
	isShown(t, api.Grammar{Terms: []api.Term{}, Nons: []string{"s"}, Rules: []api.Rule{{Right: []int{}, Prec: -1}}}, "%start s\n%%\ns : ;\n")
}

// P10.1, P10.2: no terminals, some, without a level and with levels: one and several, of each way, one name on it and several.
func TestTerms(t *testing.T) {
	const end = "%start e\n%%\ne : ;\n"
	on := func(level, assoc int, names ...string) []api.Term {
		l := specimen.Termed(names...)
		for i := range l {
			l[i].Level, l[i].Assoc = level, assoc
		}
		return l
	}
	for _, x := range []struct {
		terms []api.Term
		want  string
	}{
		{nil, ""},
		{specimen.Termed("A"), "%token A\n"},
		{specimen.Termed("B", "'a'", "A", "error"), "%token B\n%token 'a'\n%token A\n%token error\n"},
		{on(1, api.AssocLeft, "A"), "%token A\n%left A\n"},
		{on(1, api.AssocRight, "A"), "%token A\n%right A\n"},
		{on(1, api.AssocNon, "A"), "%token A\n%nonassoc A\n"},
		{on(1, api.AssocLeft, "'b'", "A", "C"), "%token 'b'\n%token A\n%token C\n%left 'b' A C\n"},
		{on(1, api.AssocRight, "'b'", "A"), "%token 'b'\n%token A\n%right 'b' A\n"},
		{on(1, api.AssocNon, "'b'", "A"), "%token 'b'\n%token A\n%nonassoc 'b' A\n"},
		{slices.Concat(on(1, 1, "A"), on(2, 1, "B"), on(3, 1, "C")), "%token A\n%token B\n%token C\n%left A\n%left B\n%left C\n"},
		{slices.Concat(on(3, 2, "A"), on(2, 3, "B"), on(1, 1, "C")), "%token A\n%token B\n%token C\n%left C\n%nonassoc B\n%right A\n"},
		{slices.Concat(on(2, 2, "A"), on(1, 3, "B"), on(2, 2, "C"), on(1, 3, "D")), "%token A\n%token B\n%token C\n%token D\n%nonassoc B D\n%right A C\n"},
		{slices.Concat(specimen.Termed("X"), on(1, 1, "A"), specimen.Termed("Y"), on(1, 1, "B"), specimen.Termed("Z")), "%token X\n%token A\n%token Y\n%token B\n%token Z\n%left A B\n"},
		{slices.Concat(on(1, 2, "Z", "Y"), on(2, 2, "X"), on(1, 2, "A")), "%token Z\n%token Y\n%token X\n%token A\n%right Z Y A\n%right X\n"},
	} {
		isShown(t, api.Grammar{Terms: x.terms, Nons: []string{"e"}, Rules: []api.Rule{{Prec: -1}}}, x.want+end)
	}
}

// P10.1, P10.2: 24 terminals, all on one level, each on its own, the last one on the first level; 16 nonterminals; 40 rules.
func TestMost(t *testing.T) {
	names := specimen.Numbered("T", 24)
	g := api.Grammar{Terms: specimen.Termed(names...), Nons: []string{"e"}, Rules: []api.Rule{{Prec: -1}}}
	tokens, end := "%token "+strings.Join(names, "\n%token ")+"\n", "%start e\n%%\ne : ;\n"
	isShown(t, g, tokens+end)
	for i := range g.Terms {
		g.Terms[i].Level, g.Terms[i].Assoc = 1, api.AssocNon
	}
	isShown(t, g, tokens+"%nonassoc "+strings.Join(names, " ")+"\n"+end)
	for i := range g.Terms {
		g.Terms[i].Level, g.Terms[i].Assoc = 24-i, api.AssocLeft
	}
	slices.Reverse(names)
	isShown(t, g, tokens+"%left "+strings.Join(names, "\n%left ")+"\n"+end)
	heads := specimen.Numbered("e", 16)
	g = api.Grammar{Nons: heads, Start: 15}
	want := "%start e15\n%%\n"
	for i := range 40 {
		g.Rules = append(g.Rules, api.Rule{Left: min(i, 15), Right: []int{-16, -1}, Prec: -1})
		want += heads[min(i, 15)] + " : e15 e0 ;\n"
	}
	isShown(t, g, want)
}

// P10.1, P10.2: the start, the first nonterminal, the last one, another one; Lefts that come again.
func TestStart(t *testing.T) {
	heads := []string{"e", "f", "error"}
	g := api.Grammar{Nons: heads}
	for _, left := range []int{0, 1, 0, 2, 1, 2, 0} {
		g.Rules = append(g.Rules, api.Rule{Left: left, Prec: -1})
	}
	for i, name := range heads {
		g.Start = i
		isShown(t, g, "%start "+name+"\n%%\ne : ;\nf : ;\ne : ;\nerror : ;\nf : ;\nerror : ;\ne : ;\n")
	}
}

// P10.1, P10.2: rules: what stands to the right, and the terminal whose precedence it has.
func TestRules(t *testing.T) {
	for _, x := range []struct {
		prec  int
		right []int
		want  string
	}{
		{-1, nil, "f : ;"},
		{0, nil, "f : %prec A ;"},
		{1, []int{}, "f : %prec 'b' ;"},
		{-1, []int{-1}, "f : e ;"},
		{-1, []int{-2, -1, -2}, "f : f e f ;"},
		{0, []int{-1}, "f : e %prec A ;"},
		{2, []int{-2, -1, -2}, "f : f e f %prec C ;"},
		{0, []int{0}, "f : A ;"},
		{1, []int{0}, "f : A %prec 'b' ;"},
		{2, []int{0}, "f : A %prec C ;"},
		{1, []int{1, -1}, "f : 'b' e ;"},
		{0, []int{1, -1}, "f : 'b' e %prec A ;"},
		{2, []int{0, 1, -1, 2, -2}, "f : A 'b' e C f ;"},
		{1, []int{0, 1, -1, 2, -2}, "f : A 'b' e C f %prec 'b' ;"},
		{0, []int{0, 1, -1, 2, -2}, "f : A 'b' e C f %prec A ;"},
		{0, []int{2, 1, 0}, "f : C 'b' A ;"},
		{2, []int{2, 1, 0}, "f : C 'b' A %prec C ;"},
		{0, []int{0, 0}, "f : A A ;"},
		{0, []int{2, 0, -1, 0, -1, -1}, "f : C A e A e e ;"},
		{-1, slices.Repeat([]int{-2}, 6), "f : f f f f f f ;"},
		{1, slices.Repeat([]int{1}, 6), "f : 'b' 'b' 'b' 'b' 'b' 'b' ;"},
	} {
		isShown(t, ruled(x.prec, x.right...), "%token A\n%token 'b'\n%token C\n%start e\n%%\ne : ;\n"+x.want+"\n")
	}
}

// P10.1, P10.2: each literal, wherever a terminal stands; names of all forms.
func TestNames(t *testing.T) {
	for i, s := range append(literals(), "A", "_", "a.b", "x..", "Z9_", "error", "token", specimen.Long(20)) {
		g := api.Grammar{Terms: []api.Term{{Name: "B", Level: 1, Assoc: 1 + i%3}, {Name: s, Level: 1, Assoc: 1 + i%3}}, Nons: []string{"e"}, Rules: []api.Rule{{Right: []int{1, -1, 0}, Prec: 1}}}
		way := []string{"%left", "%right", "%nonassoc"}[i%3]
		isShown(t, g, "%token B\n%token "+s+"\n"+way+" B "+s+"\n%start e\n%%\ne : "+s+" e B %prec "+s+" ;\n")
	}
	for _, s := range []string{"A", "_", "a.b", "x..", "Z9_", "error", "token", specimen.Long(20)} {
		isShown(t, api.Grammar{Nons: []string{s}, Rules: []api.Rule{{Right: []int{-1}, Prec: -1}}}, "%start "+s+"\n%%\n"+s+" : "+s+" ;\n")
	}
}

// P10.1: a grammar that may not be is ErrArg, in each way, and ahead of a text that is too long.
func TestMayNotBe(t *testing.T) {
	if len(modelOf(large())) <= api.MaxSource {
		t.Fatal("it is too short")
	}
	for i, change := range specimen.Changes() {
		g, h := specimen.Small(), large()
		change(&g)
		if cfg.Right(g) {
			t.Fatal(i, g)
		}
		isRefused(t, g, api.ErrArg)
		change(&h)
		isRefused(t, h, api.ErrArg)
	}
}

// large is a grammar that may be, like the small one, but for many rules, so that its text is too long.
func large() api.Grammar {
	g := specimen.Small()
	g.Nons[0] = specimen.Long(20)
	for range 35 {
		g.Rules = append(g.Rules, api.Rule{Left: 0, Right: []int{-1, -1, -1, -1, -1, -1}, Prec: -1})
	}
	return g
}

// sized is a grammar whose text has so many bytes.
func sized(n int) api.Grammar {
	g := api.Grammar{Terms: specimen.Termed(specimen.Long(20), "A", "B"), Nons: []string{"e"}, Rules: slices.Repeat([]api.Rule{{Prec: -1}}, 40)}
	g.Terms[0].Level, g.Terms[0].Assoc = 1, api.AssocNon
	for i := 0; len(modelOf(g))+21 <= n; i++ {
		r := &g.Rules[i/6]
		r.Right, r.Prec = append(r.Right, 0), 0
	}
	for i := 1; len(modelOf(g)) < n; i = 3 - i {
		g.Terms[i].Name += "y"
	}
	return g
}

// P10.1, P10.2: a text of 4000 bytes, and of one more.
func TestLongTexts(t *testing.T) {
	for n := 3980; n <= 4020; n++ {
		g := sized(n)
		want := modelOf(g)
		if len(want) != n || !cfg.Right(g) {
			t.Fatal(n, g)
		}
		if n <= 4000 {
			isShown(t, g, want)
		} else {
			isRefused(t, g, api.ErrMany)
		}
	}
	isRefused(t, large(), api.ErrMany)
	most := api.Grammar{Start: 15}
	for i := range 24 {
		most.Terms = append(most.Terms, api.Term{Name: specimen.Long(18) + fmt.Sprint(10+i), Level: i + 1, Assoc: api.AssocNon})
	}
	for i := range 16 {
		most.Nons = append(most.Nons, specimen.Long(17)+fmt.Sprint("y", 10+i))
	}
	for i := range 40 {
		most.Rules = append(most.Rules, api.Rule{Left: min(i, 15), Right: []int{23, 23, 23, 23, 23, 23}, Prec: 0})
	}
	isRefused(t, most, api.ErrMany)
}

// P10.1, P10.2: a text may be read whose grammar's text is too long: its alternatives stand behind one name.
func TestReadButTooLong(t *testing.T) {
	for n, want := range map[int]api.Errno{3: api.OK, 4: api.ErrMany} {
		name := specimen.Long(20)
		text := "%%" + name + ":" + strings.Repeat("|"+strings.Repeat(name+" ", n), 39) + ";"
		g, _, e := cfg.Read([]byte(text))
		if e != api.OK || len(text) > 4000 {
			t.Fatal(e, len(text))
		}
		if s, f := show.Print(g); f != want || (s == "") != (f != api.OK) {
			t.Error(n, s, f)
		}
		if k, f := show.Digest(g); f != want || (k == 0) != (f != api.OK) {
			t.Error(n, k, f)
		}
	}
}

// P10.1, P10.2: drawn grammars, against a model, and read again.
func TestPrintDrawn(t *testing.T) {
	d, shown, refused := drawer{10}, 0, 0
	for range 4000 {
		g := d.some()
		if !cfg.Right(g) {
			t.Fatal(g)
		}
		want := modelOf(g)
		if len(want) > 4000 {
			isRefused(t, g, api.ErrMany)
			refused++
			continue
		}
		isShown(t, g, want)
		areLines(t, g)
		shown++
	}
	if shown < 2000 || refused < 50 {
		t.Error(shown, refused)
	}
}

// areLines holds a grammar's text to as many lines as it must have, each with its line feed, and one blank between words.
func areLines(t *testing.T, g api.Grammar) {
	t.Helper()
	s, _ := show.Print(g)
	count := len(g.Terms) + 2 + len(g.Rules)
	for level := 1; len(namesOn(g.Terms, level)) > 0; level++ {
		count++
	}
	if strings.Count(s, "\n") != count || !strings.HasSuffix(s, "\n") || strings.ContainsAny(s, "\t\r") {
		t.Fatalf("%q: not %d lines", s, count)
	}
	for _, line := range strings.Split(strings.TrimSuffix(s, "\n"), "\n") {
		if line == "" || strings.Trim(line, " ") != line || strings.Contains(line, "  ") {
			t.Fatalf("%q: %q", s, line)
		}
	}
}

// isThereAndBack holds a text that is read to what is printed of it, and tells whether it was.
func isThereAndBack(t *testing.T, text string) bool {
	t.Helper()
	g, at, e := cfg.Read([]byte(text))
	if e != api.OK {
		t.Fatalf("%q: %v %v", text, at, e)
	}
	if len(modelOf(g)) > 4000 {
		isRefused(t, g, api.ErrMany)
		return false
	}
	isShown(t, g, modelOf(g))
	s, _ := show.Print(g)
	n, _ := show.Digest(g)
	k, at, e := cfg.Read([]byte(s))
	again, f := show.Print(k)
	m, h := show.Digest(k)
	if e != api.OK || f != api.OK || h != api.OK || at != 0 || !cfg.Same(k, g) || again != s || m != n {
		t.Fatalf("%q: %q %v, %q %v, %x %x %v", text, s, e, again, f, n, m, h)
	}
	return true
}

// P10.2: texts that are read, printed, and read again.
func TestThereAndBack(t *testing.T) {
	for _, text := range []string{
		"%% s : 'a' s | ;",
		"%%s:;",
		"%token N %left '+' '-' %right '*' %nonassoc U %start t %% e : e '+' e | '-' e %prec U | N ; t : e error ;",
		"%left B %left A %token C B A %% s : A B C ;",
		"%right A %token B %right 'c' B %% s : A %prec B | B A %prec 'd' | %prec A ; A1 : s ; %% behind",
		"%{ head %} %token <n> N /* a */ %% e : N { f(); } ';' // b\n | e '\\n' | e ' ' e ;",
		"%start error %token prec token %% e : prec ; error : token %prec prec ;",
	} {
		if !isThereAndBack(t, text) {
			t.Errorf("%q: too long", text)
		}
	}
	d, there, long := drawer{1010}, 0, 0
	for range 4000 {
		text := d.written(d.some())
		if len(text) > 4000 {
			continue
		}
		if isThereAndBack(t, text) {
			there++
		} else {
			long++
		}
	}
	if there < 2000 || long == 0 {
		t.Error(there, long)
	}
}

// P10.2: texts of the same grammar, written in other ways, have one digest; grammars unlike each other have other texts.
func TestSameGrammar(t *testing.T) {
	digest := func(text string) uint32 {
		g, _, e := cfg.Read([]byte(text))
		n, f := show.Digest(g)
		if e != api.OK || f != api.OK {
			t.Fatal(text, e, f)
		}
		return n
	}
	want := digest("%token A 'b' %% e : e 'b' | A ;")
	for _, text := range []string{"%token A %token 'b' %start e %% e : e 'b' ; e : A ;", "%token A%%e:e'b'|A;%%", "%token <x> A /* b */ %% e : e 'b' %prec 'b' { } | A // a\n ;"} {
		if n := digest(text); n != want {
			t.Errorf("%q: %x, not %x", text, n, want)
		}
	}
	for _, text := range []string{"%token 'b' A %% e : e 'b' | A ;", "%token A 'b' %% f : f 'b' | A ;", "%token A 'b' %% e : A | e 'b' ;", "%token A 'b' %left A %% e : e 'b' | A ;", "%token A 'b' %right A %% e : e 'b' | A ;", "%token A 'b' %% e : e 'b' %prec A | A ;", "%token A 'b' C %% e : e 'b' | A ;"} {
		if n := digest(text); n == want {
			t.Errorf("%q: %x", text, n)
		}
	}
}

// P10.1: grammars stay as they were, their spare room too, and are answered the same once more.
func TestLeftAsItWas(t *testing.T) {
	l := append(specimen.Wrong(), specimen.Small(), large(), sized(4000), sized(4001))
	d := drawer{33}
	for range 300 {
		l = append(l, d.some())
	}
	for _, g := range l {
		given, asWas := specimen.Spare(g)
		s, e := show.Print(given)
		n, f := show.Digest(given)
		if again, no := show.Print(given); again != s || no != e {
			t.Fatal(g, s, again)
		}
		if again, no := show.Digest(given); again != n || no != f {
			t.Fatal(g, n, again)
		}
		if !asWas() {
			t.Fatal(given, g)
		}
	}
}
