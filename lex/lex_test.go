package lex_test

import (
	"bytes"
	"fmt"
	"slices"
	"strings"
	"testing"

	"gerund/api"
	"gerund/lex"
)

// told is tokens as a text: of names and literals their texts, of others their kinds.
func told(l []api.Token) string {
	var s []string
	for _, x := range l {
		if x.Kind == api.TokName || x.Kind == api.TokLiteral {
			s = append(s, x.Text)
		} else {
			s = append(s, fmt.Sprint(x.Kind)+x.Text)
		}
	}
	return strings.Join(s, " ")
}

// hold holds what is answered of texts against what a model tells.
func hold(t *testing.T, m model, l [][]byte) {
	t.Helper()
	for _, b := range l {
		tokens, at, e := lex.Tokens(b)
		want, wantAt, wantE := m.tokens(b)
		if e != wantE || at != wantAt || !slices.Equal(tokens, want) {
			t.Fatalf("%q: %v %v %v, not %v %v %v", b, tokens, at, e, want, wantAt, wantE)
		}
	}
}

// isWrong holds a text to an error at a byte of it.
func isWrong(t *testing.T, text string, at complex128, e api.Errno) {
	t.Helper()
	if l, p, f := lex.Tokens([]byte(text)); f != e || p != at || len(l) != 0 {
		t.Errorf("%q: %v %v %v, not %v %v", text, l, p, f, at, e)
	}
}

// texts are all that are made of so many parts at most, the shorter ones first.
func texts(most int, parts ...string) [][]byte {
	all, last := [][]byte{{}}, [][]byte{{}}
	for range most {
		var longer [][]byte
		for _, b := range last {
			for _, s := range parts {
				longer = append(longer, append(slices.Clone(b), s...))
			}
		}
		all, last = append(all, longer...), longer
	}
	return all
}

// drawer is numbers that look like drawn ones.
type drawer uint64

// below is one of the numbers below n.
func (d *drawer) below(n int) int {
	*d = *d*6364136223846793005 + 1442695040888963407
	return int(*d>>33) % n
}

// of is one of some texts.
func (d *drawer) of(l []string) string {
	return l[d.below(len(l))]
}

// literals are all that there are.
func literals() []string {
	l := []string{`'\n'`, `'\t'`, `'\\'`, `'\''`}
	for c := 32; c <= 126; c++ {
		if c != '\'' && c != '\\' {
			l = append(l, fmt.Sprintf("'%c'", c))
		}
	}
	return l
}

// names are of each length, and of each byte that they may have, ahead and behind.
func names() []string {
	l := []string{"a.b", "a..", "_1", "a_b.c9", "Z.", "__", "token", "prec", "error", "x0123456789.ABCDEFGH"}
	for size := 1; size <= 20; size++ {
		l = append(l, strings.Repeat("a", size), strings.Repeat("Z", size), "_"+strings.Repeat("9", size-1), "q"+strings.Repeat(".", size-1))
	}
	for _, c := range "abcdefghijklmnopqrstuvwxyzABCDEFGHIJKLMNOPQRSTUVWXYZ_" {
		l = append(l, string(c), "n"+string(c))
	}
	for _, c := range "0123456789." {
		l = append(l, "n"+string(c), "n"+string(c)+"n")
	}
	return l
}

// skips are things that are skipped, none of which hangs on what follows it.
func skips() []string {
	return []string{
		" ", "\t", "\n", "\r", "\r\n", "  \n\n\t ",
		"/**/", "/***/", "/*/*/", "/*a*/", "/* '\n{\" */", "/*//*/", "/*%%*/", "/*\xff\x80*/", "/**\n**/",
		"//\n", "// a\n", "///*\n", "//'{\"<%{\n", "//\x00\xff\r\n", "//%%\n",
		"%{%}", "%{}%}", "%{%%}", "%{ ' /* { \n%}", "%{%{%}", "%{ % } %}", "%{\xfe%}",
		"<>", "<num>", "<<>", "< a'\"{ %{ /* >", "<\xc3\xa4\r>",
		"{}", "{ }", "{a}", "{{}}", "{{}{}}", "{{{}}{}}", "{\n{\n}\n}", "{%%}", "{\xe2\x82\xac}", "{<}", "{%{}}",
		"{'}'}", "{'{'}", "{\"}\"}", "{\"{\"}", "{'\"'}", "{\"'\"}", "{'\"}'}", "{\"'}\"}", "{\"\n}\n\"}",
		`{'\''}`, `{'\'}'}`, `{"\""}`, `{"\"}"}`, `{"\"{"}`, `{'\\'}`, `{"\\"}`, `{"\\\"}"}`, `{"\}"}`, `{'\{'}`, `{""}`, `{''}`, `{'}''{'}`, `{'\}\''}`,
		`{\}`, `{\\}`, "{/*}", "{//}",
	}
}

// P7.1: texts, their tokens, and the place behind the last byte.
func TestTokens(t *testing.T) {
	for _, x := range []struct {
		text, tokens string
		end          complex128
	}{
		{"", "", 1 + 1i},
		{" ", "", 1 + 2i},
		{"\n", "", 2 + 1i},
		{"e", "e", 1 + 2i},
		{"e : e '+' t { f(); } ;", "e 10 e '+' t 12", 1 + 23i},
		{"%token N %% e : e '+' e | N ;", "3 N 9 e 10 e '+' e 11 N 12", 1 + 30i},
		{"%% s : 'a' s | ;", "9 s 10 'a' s 11 12", 1 + 17i},
		{"%left '+'\n%right UP\n%nonassoc'<''>'\n%%", "4 '+' 5 UP 6 '<' '>' 9", 4 + 3i},
		{"%start e %% e : 'a' %prec UP ;\n", "7 e 9 e 10 'a' 8 UP 12", 2 + 1i},
		{"a:b|'c';d", "a 10 b 11 'c' 12 d", 1 + 10i},
		{":::|||;;;", "10 10 10 11 11 11 12 12 12", 1 + 10i},
		{"a'b'c", "a 'b' c", 1 + 6i},
		{"a/**/b//c\nd<e>f{g}h", "a b d f h", 2 + 10i},
		{"'\\'''\"'", `'\'' '"'`, 1 + 8i},
		{"%{\n#include\n%}\n%token <t> A\n%%\nr:A;\n%%\nmain(){'", "3 A 9 r 10 A 12 9", 8 + 9i},
	} {
		l, at, e := lex.Tokens([]byte(x.text))
		if e != api.OK || at != x.end || told(l) != x.tokens {
			t.Errorf("%q: %s, %v, %v", x.text, told(l), at, e)
		}
	}
	if l, at, e := lex.Tokens(nil); e != api.OK || at != 1+1i || len(l) != 0 {
		t.Error(l, at, e)
	}
}

// P7.1: each token has its kind and the place where it begins, and no text but a name's and a literal's.
func TestFields(t *testing.T) {
	l, _, e := lex.Tokens([]byte("%token\n%left\t%right %nonassoc%start\r%prec\n\n %%a:'\\n'|"))
	want := []api.Token{
		{Kind: api.TokToken, At: 1 + 1i}, {Kind: api.TokLeft, At: 2 + 1i}, {Kind: api.TokRight, At: 2 + 7i},
		{Kind: api.TokNon, At: 2 + 14i}, {Kind: api.TokStart, At: 2 + 23i}, {Kind: api.TokPrec, At: 2 + 30i},
		{Kind: api.TokMark, At: 4 + 2i}, {Kind: api.TokName, Text: "a", At: 4 + 4i}, {Kind: api.TokColon, At: 4 + 5i},
		{Kind: api.TokLiteral, Text: `'\n'`, At: 4 + 6i}, {Kind: api.TokBar, At: 4 + 10i},
	}
	if e != api.OK || !slices.Equal(l, want) {
		t.Error(l, e)
	}
	l, _, e = lex.Tokens([]byte(";"))
	if e != api.OK || !slices.Equal(l, []api.Token{{Kind: api.TokSemi, At: 1 + 1i}}) {
		t.Error(l, e)
	}
}

// P7.1: each word behind a % is all small letters there; others are none.
func TestWordsBehindPercent(t *testing.T) {
	for word, kind := range words() {
		for _, tail := range []string{"", " ", "\n", "N", "_", "'a'", ":", "%%", "%" + word[1:], "<t>", "{}", "/**/"} {
			l, _, e := lex.Tokens([]byte(word + tail))
			if e != api.OK || len(l) == 0 || l[0] != (api.Token{Kind: kind, At: 1 + 1i}) {
				t.Errorf("%q: %v %v", word+tail, l, e)
			}
		}
		for size := 1; size < len(word); size++ {
			isWrong(t, word[:size], 1+1i, api.ErrForm)
			isWrong(t, " \n"+word[:size]+" ", 2+1i, api.ErrForm)
		}
		for _, s := range []string{word + "s", word + word[1:], "% " + word[1:], "%" + strings.ToUpper(word[1:]), "%" + strings.ToUpper(word[1:2]) + word[2:], "%_" + word[1:], word[:2] + " " + word[2:]} {
			isWrong(t, s, 1+1i, api.ErrForm)
		}
		after := complex(1, float64(len(word)+1))
		for _, c := range "0.9" {
			isWrong(t, word+string(c), after, api.ErrForm)
		}
	}
	for _, s := range []string{"%", "% ", "%\n", "%x", "%0", "%type", "%union", "%expect", "%empty", "%binary", "%precedence", "%}", "%<", "%>", "%'a'", "%:", "%|", "%;", "%.", "%/**/", "%\x80", "%non", "%nonassocs"} {
		isWrong(t, s, 1+1i, api.ErrForm)
		isWrong(t, "a\n b "+s, 2+4i, api.ErrForm)
	}
}

// P7.1: up to the second mark all is read; behind it nothing is wrong, and nothing is a token.
func TestMarks(t *testing.T) {
	isWrong(t, "%% ?", 1+4i, api.ErrForm)
	isWrong(t, "%%%", 1+3i, api.ErrForm)
	isWrong(t, "%%\n%", 2+1i, api.ErrForm)
	isWrong(t, "%%%}", 1+3i, api.ErrForm)
	isWrong(t, "%%%{", 1+3i, api.ErrEnd)
	isWrong(t, "%% {%%", 1+4i, api.ErrEnd)
	isWrong(t, "? %% %%", 1+1i, api.ErrForm)
	for text, tokens := range map[string]string{"%%": "9", "%%token": "9 token", "%%a": "9 a", "%%{%%}a": "9 a", "%%/*%%*/a//%%\nb<%%>c%{%%%}d'%''%'": "9 a b c d '%' '%'", "a%%b": "a 9 b", "%%%token": "9 3"} {
		if l, _, e := lex.Tokens([]byte(text)); e != api.OK || told(l) != tokens {
			t.Errorf("%q: %s, %v", text, told(l), e)
		}
	}
	for _, junk := range []string{"", "a", " ", "?", "%", "%%", "%%%%", "%%a", "'", "'a'", "/*", "//", "%{", "%}", "<", "{", "}", "{'", "\x00", "\x80\xff", ":", "|;", "\n?", strings.Repeat("a", 21), "\n\n%token a\n", strings.Repeat("\n", 3000), strings.Repeat("%%", 1998)} {
		for _, head := range []string{"%%%%", "%%\n%%", "%% a%%", "%%/**/%%"} {
			b := []byte(head + junk)
			if len(b) > 4000 {
				continue
			}
			l, at, e := lex.Tokens(b)
			bare, _, _ := lex.Tokens([]byte(head))
			if e != api.OK || at != placeOf(b, len(b)) || !slices.Equal(l, bare) {
				t.Errorf("%q: %v %v %v", b, l, at, e)
			}
		}
	}
	l, at, e := lex.Tokens([]byte("%% a %%\nb"))
	if e != api.OK || at != 2+2i || !slices.Equal(l, []api.Token{{Kind: 9, At: 1 + 1i}, {Kind: 1, Text: "a", At: 1 + 4i}, {Kind: 9, At: 1 + 6i}}) {
		t.Error(l, at, e)
	}
}

// P7.1: what is skipped leaves nothing, and what stands ahead of it, and behind it, is a token each.
func TestSkipped(t *testing.T) {
	for _, s := range skips() {
		l, at, e := lex.Tokens([]byte(s))
		if e != api.OK || at != placeOf([]byte(s), len(s)) || len(l) != 0 {
			t.Errorf("%q: %v %v %v", s, l, at, e)
		}
		b := []byte("ab" + s + "'c'" + s + ";")
		l, _, e = lex.Tokens(b)
		if e != api.OK || told(l) != "ab 'c' 12" || l[1].At != placeOf(b, 2+len(s)) || l[2].At != placeOf(b, 5+2*len(s)) {
			t.Errorf("%q: %v %v", b, l, e)
		}
	}
	for _, c := range []byte("\x00\x01\b\v\f\x0e\x1b\x1c\x1f\x7f\x80\x85\xa0\xff") {
		isWrong(t, "a "+string([]byte{c}), 1+3i, api.ErrForm)
	}
}

// P7.1: a line's end, or the text's, ends what begins with //; nothing else does.
func TestLineComments(t *testing.T) {
	for text, tokens := range map[string]string{"//": "", "a//": "a", "a// b": "a", "a//b\nc": "a c", "a//b\rc\nd": "a d", "a///b\nc": "a c", "a// /*\nb": "a b", "//\n//\na": "a", "a//{ ' \" < %{\nb": "a b", "//\v\f\u2028\u0085a\nb": "b"} {
		l, at, e := lex.Tokens([]byte(text))
		if e != api.OK || at != placeOf([]byte(text), len(text)) || told(l) != tokens {
			t.Errorf("%q: %s, %v, %v", text, told(l), at, e)
		}
	}
	isWrong(t, "//*\na*/", 2+2i, api.ErrForm)
}

// P7.1: what is skipped ends as soon as it may.
func TestSkippedEnds(t *testing.T) {
	for text, tokens := range map[string]string{
		"/*a*/b/*c*/": "b", "%{a%}b%{c%}": "b", "<a>b<c>": "b", "{a}b{c}": "b", "{{a}}b{{c}}": "b",
		"{'}'}b{'}'}": "b", `{"a"}b{"c"}`: "b", `{'\\'}b{'\\'}`: "b", `{"\\"}b`: "b", `{\}b{\}`: "b", `{ \\}b`: "b",
		"{\"a'}\"}'b'": "'b'", "/*/*/b/**/": "b", "%{%{%}b": "b", "<<>b": "b", "<'>b<'>": "b",
	} {
		l, _, e := lex.Tokens([]byte(text))
		if e != api.OK || told(l) != tokens {
			t.Errorf("%q: %s, %v", text, told(l), e)
		}
	}
	isWrong(t, "/**/b*", 1+6i, api.ErrForm)
	isWrong(t, "/*/* */ */", 1+9i, api.ErrForm)
	isWrong(t, "%{ %{ %} %}", 1+10i, api.ErrForm)
	isWrong(t, "<a>>", 1+4i, api.ErrForm)
	isWrong(t, "{}}", 1+3i, api.ErrForm)
	isWrong(t, "{ /* } */", 1+8i, api.ErrForm)
	isWrong(t, "{ // }\n}", 2+1i, api.ErrForm)
	isWrong(t, `{\}}`, 1+4i, api.ErrForm)
	isWrong(t, `{'\\'}'}`, 1+7i, api.ErrEnd)
	isWrong(t, `{'\\'}'}}`, 1+7i, api.ErrForm)
}

// P7.1: what is skipped, and doesn't end, is wrong at the place where it begins.
func TestSkippedWithoutEnd(t *testing.T) {
	for _, s := range []string{
		"/*", "/* ", "/*/", "/**", "/* * /", "/*\n\n*", "/* } ' \"", "/*%}", "/*//\n",
		"%{", "%{ ", "%{}", "%{%", "%{% }", "%{\n}%\n", "%{*/", "%{%%",
		"<", "<a", "<a\n", "<\n>", "<a\nb>", "<'\n>'", "<\r\n>", "</*\n*/>",
		"{", "{ ", "{{}", "{{", "{{}{}", "{\n", "{ %{", "{%%", "{>",
		"{'}", "{\"}", "{'}\"", "{\"}'", "{'\"}", "{ ' } ", "{'}'", "{\"}\"", "{'", "{\"", "{'}\n", "{don't}",
		`{'\'}`, `{"\"}`, `{"\\\"}`, `{'\`, `{"\`, `{'\'`, `{"\"`, `{'a\'}`, `{"'\"}'`, `{'\\\'}`, `{\'}`, `{\"}`, `{\{}`, `{'\\\\\'}`,
	} {
		isWrong(t, s, 1+1i, api.ErrEnd)
		isWrong(t, "a 'b' "+s, 1+7i, api.ErrEnd)
		isWrong(t, "%%\n\n a:{}"+s, 3+6i, api.ErrEnd)
	}
	for _, s := range skips() {
		isWrong(t, s+"{", placeOf([]byte(s), len(s)), api.ErrEnd)
	}
}

// P7.1: quotes of literals, of what the text's end cuts off, and of what is none.
func TestQuotes(t *testing.T) {
	for _, s := range literals() {
		l, at, e := lex.Tokens([]byte(s))
		if e != api.OK || at != complex(1, float64(len(s)+1)) || !slices.Equal(l, []api.Token{{Kind: api.TokLiteral, Text: s, At: 1 + 1i}}) {
			t.Errorf("%q: %v %v %v", s, l, at, e)
		}
		for size := 1; size < len(s); size++ {
			isWrong(t, s[:size], 1+1i, api.ErrEnd)
			isWrong(t, "a\n "+s[:size], 2+2i, api.ErrEnd)
			isWrong(t, s[:size]+"\n", 1+1i, api.ErrForm)
			isWrong(t, s[:size]+"\x80", 1+1i, api.ErrForm)
		}
		isWrong(t, s[:len(s)-1]+"b'", 1+1i, api.ErrForm)
		isWrong(t, s[:len(s)-1]+"\"", 1+1i, api.ErrForm)
		isWrong(t, s+"'", complex(1, float64(len(s)+1)), api.ErrEnd)
	}
	for c := range 256 {
		s := string([]byte{byte(c)})
		if c < 32 || c > 126 {
			for _, tail := range []string{"", "'", "a", "' 'a'"} {
				isWrong(t, "'"+s+tail, 1+1i, api.ErrForm)
			}
		}
		if !strings.Contains(`nt\'`, s) {
			for _, tail := range []string{"", "'", "a", "' 'a'"} {
				isWrong(t, `'\`+s+tail, 1+1i, api.ErrForm)
			}
		}
	}
	for _, s := range []string{"''", "'' ", "''a", "'ab", "'ab'", "' a'", "'a ", "'a\n'", "'\\n ", "'\\na", "'\\'a", "'\\' '", "'\\\\a'", "'\\\\\\'", "'\\nn'", "'%%'", "'/*'*/", "'\u00e4'"} {
		isWrong(t, s, 1+1i, api.ErrForm)
		isWrong(t, "\n\nb "+s, 3+3i, api.ErrForm)
	}
	isWrong(t, "\"", 1+1i, api.ErrForm)
	isWrong(t, "'a' \"b\"", 1+5i, api.ErrForm)
}

// P7.1: names of each length that may be, and longer ones.
func TestNames(t *testing.T) {
	for _, s := range names() {
		if l, at, e := lex.Tokens([]byte(s)); e != api.OK || at != complex(1, float64(len(s)+1)) || !slices.Equal(l, []api.Token{{Kind: api.TokName, Text: s, At: 1 + 1i}}) {
			t.Errorf("%q: %v %v %v", s, l, at, e)
		}
	}
	for _, size := range []int{21, 22, 40, 41, 255, 256, 257, 276, 3990} {
		for _, s := range []string{strings.Repeat("a", size), "_" + strings.Repeat("0", size-1), "Z" + strings.Repeat(".", size-1)} {
			isWrong(t, s, 1+1i, api.ErrMany)
			isWrong(t, "a\n"+s, 2+1i, api.ErrMany)
			isWrong(t, "'a'"+s+" ?", 1+4i, api.ErrMany)
			isWrong(t, s+"\xff", 1+1i, api.ErrMany)
		}
	}
	for _, s := range []string{"1", "9a", "0_", ".", ".a", "..", "-", "5.5"} {
		isWrong(t, s, 1+1i, api.ErrForm)
		isWrong(t, "a:\n"+s, 2+1i, api.ErrForm)
		isWrong(t, "'a'"+s, 1+4i, api.ErrForm)
	}
	for _, s := range []string{"a-b", "a b", "a'b'", "a+b", "a\x80", "a\u00e4"} {
		if lex.Name(s) {
			t.Error(s)
		}
	}
}

// P7.1: each byte by itself, and behind a name, begins what it may begin.
func TestBytes(t *testing.T) {
	m := modelOf(1)
	for c := range 256 {
		s := string([]byte{byte(c)})
		hold(t, m, [][]byte{[]byte(s), []byte("a" + s), []byte(s + "a"), []byte("%%" + s), []byte("/" + s), []byte("%" + s), []byte("'" + s + "'"), []byte("<" + s + ">"), []byte("{" + s + "}"), []byte("{'" + s + "'}"), []byte("{\"" + s + "\"}"), []byte("//" + s + "\n"), []byte("/*" + s + "*/"), []byte("%{" + s + "%}")})
	}
	for _, c := range []byte("!\"#$&()*+,-.0123456789=>?@[\\]^`}~\x00\x7f\x80\xc3\xff") {
		isWrong(t, "\n"+string([]byte{c}), 2+1i, api.ErrForm)
	}
	for _, s := range []string{"/", "/ /", "/ *", "/a", "/\n/", "/'*'"} {
		isWrong(t, "a "+s, 1+3i, api.ErrForm)
	}
}

// P7.1: texts of as many bytes as may be, and of more.
func TestLongTexts(t *testing.T) {
	for _, s := range []string{" ", "\n", "a ", "'a' ", ":", "{}", "%{%}", "<a>\n", "//\n", "%token "} {
		b := bytes.Repeat([]byte(s), 4000/len(s))
		b = append(b, bytes.Repeat([]byte(" "), 4000-len(b))...)
		l, at, e := lex.Tokens(b)
		n := len(l)
		if e != api.OK || at != placeOf(b, 4000) || n != 0 && n != 4000/len(s) {
			t.Errorf("%q: %d %v %v", s, n, at, e)
		}
		isWrong(t, string(b)+" ", 0, api.ErrMany)
		isWrong(t, string(b)+string(b), 0, api.ErrMany)
	}
	deep := strings.Repeat("{", 2000) + strings.Repeat("}", 2000)
	if l, at, e := lex.Tokens([]byte(deep)); e != api.OK || at != 1+4001i || len(l) != 0 {
		t.Error(len(l), at, e)
	}
	isWrong(t, deep[1:], 1+3999i, api.ErrForm)
	isWrong(t, deep[:3999], 1+1i, api.ErrEnd)
	for _, s := range []string{"?", "{", "'", "%%%%", "%", strings.Repeat("a", 21)} {
		isWrong(t, s+strings.Repeat(" ", 4001-len(s)), 0, api.ErrMany)
	}
	isWrong(t, strings.Repeat(" ", 3999)+"?", 1+4000i, api.ErrForm)
	isWrong(t, strings.Repeat("\n", 3999)+"{", 4000+1i, api.ErrEnd)
	isWrong(t, strings.Repeat("?", 1<<20), 0, api.ErrMany)
}

// P7.1: of several things that are wrong the first one is told, whatever they are.
func TestFirstWrong(t *testing.T) {
	wrongs := []struct {
		text string
		e    api.Errno
	}{{"?", api.ErrForm}, {"%x", api.ErrForm}, {"''", api.ErrForm}, {strings.Repeat("n", 21), api.ErrMany}, {"<a\n", api.ErrEnd}, {"\x80", api.ErrForm}}
	ends := []string{"/*", "%{", "{", "'", "'a", "<"}
	for _, x := range wrongs {
		for _, y := range wrongs {
			isWrong(t, "a "+x.text+" "+y.text, 1+3i, x.e)
		}
		for _, s := range ends {
			isWrong(t, "a "+x.text+" "+s, 1+3i, x.e)
			if s != "'" && s != "'a" && s != "<" {
				isWrong(t, "a "+s+" "+x.text, 1+3i, api.ErrEnd)
			}
		}
		isWrong(t, "a <"+strings.ReplaceAll(x.text, "\n", " "), 1+3i, api.ErrEnd)
	}
}

// P7.1: all short texts of the bytes about which the rules turn are answered as the model tells.
func TestShortTexts(t *testing.T) {
	for _, x := range []struct {
		letters string
		most    int
	}{
		{"{}'\"\\a", 6}, {"{}'\\", 8}, {"a'\\nt\n", 5}, {"'\\\x7f\x80 ~", 5}, {"/*\na", 7}, {"/*", 12}, {"<>\n%a", 6}, {"%{}a", 7}, {"%{}", 9}, {"%\n?", 8}, {"aZ_0.-", 5}, {"'{\"/*\n", 5}, {":|; \t\r\na?", 4},
	} {
		hold(t, modelOf(x.most/2), texts(x.most, strings.Split(x.letters, "")...))
	}
	hold(t, modelOf(2), texts(4, breakers()...))
}

// breakers are parts of texts that are read otherwise where others stand beside them.
func breakers() []string {
	return []string{"%token", "s", "%%", "%", "'a'", "'", "{", "}", "/*", "*/", "//", "\n", "%{", "%}", "<", ">", "\\"}
}

// P7.1: long texts of many parts are answered as the model tells.
func TestDrawnTexts(t *testing.T) {
	m := modelOf(4)
	d := drawer(7)
	right := slices.Concat(skips(), literals(), []string{"ab ", "c\n", ":", "|", ";", "%token ", "%left ", "%right ", "%nonassoc ", "%start ", "%prec "})
	for n := range 1500 {
		var b []byte
		for range d.below(60) {
			b = append(b, d.of(right)...)
		}
		switch n % 3 {
		case 1:
			b = append(b, d.of(breakers())...)
		case 2:
			b = slices.Insert(b, d.below(len(b)+1), byte(d.below(256)))
		}
		b = slices.Insert(b, d.below(len(b)+1), []byte(d.of([]string{"", "%%", "%%%%", "%% a %%"}))...)
		hold(t, m, [][]byte{b})
	}
}

// P7.1: what was handed in is as it was, its spare room too, and isn't kept.
func TestArgumentsStay(t *testing.T) {
	for _, s := range []string{"%token ab 'c' %% d : { ' } ' } ;", "a /*", "'\\", "%%%%?", "ab 'c", "", "{\"}"} {
		room := []byte(s + "*/ 'x' } n'")
		before := slices.Clone(room)
		l, at, e := lex.Tokens(room[:len(s)])
		if !bytes.Equal(room, before) {
			t.Errorf("%q: %q", s, room)
		}
		want, wantAt, wantE := lex.Tokens([]byte(s))
		for i := range room {
			room[i] = '?'
		}
		if at != wantAt || e != wantE || !slices.Equal(l, want) {
			t.Errorf("%q: %v %v %v", s, l, at, e)
		}
	}
}

// P7.1: what is a name.
func TestName(t *testing.T) {
	for _, s := range names() {
		if !lex.Name(s) {
			t.Errorf("%q is one", s)
		}
	}
	for c := range 256 {
		s := string([]byte{byte(c)})
		letter := 'a' <= c && c <= 'z' || 'A' <= c && c <= 'Z' || c == '_'
		tail := letter || '0' <= c && c <= '9' || c == '.'
		if lex.Name(s) != letter || lex.Name(s+"a") != letter || lex.Name("a"+s) != tail || lex.Name("a"+s+"a") != tail {
			t.Errorf("%q", s)
		}
	}
	for _, s := range []string{"", strings.Repeat("a", 21), strings.Repeat("a", 20) + "\n", strings.Repeat("a", 276), strings.Repeat("_", 1<<20), "a b", " a", "a ", "'a'", "%token", "{}", "a:", "1a", ".a", "\u00e4", "a\u00e4", "\x80"} {
		if lex.Name(s) {
			t.Errorf("%q is none", s)
		}
	}
}

// P7.1: what is a literal: of all texts of few bytes just those.
func TestLiteral(t *testing.T) {
	right := map[string]bool{}
	for _, s := range literals() {
		right[s] = true
	}
	for n := range 1 << 16 {
		a, b := string([]byte{byte(n)}), string([]byte{byte(n >> 8)})
		for _, s := range []string{a, a + b, "'" + a + b, a + "'" + b, a + b + "'", "'" + a + b + "'", "'" + a + "'" + b, a + "a" + b} {
			if lex.Literal(s) != right[s] {
				t.Fatalf("%q: %v", s, lex.Literal(s))
			}
		}
	}
	for _, s := range []string{"", "'", "''", "'''", "''''", "'ab'", "'\\'", "'\\n", "\\n'", "'a' ", " 'a'", "'a'a", "'a''b'", "'\\n''", "'\\nn'", "'\\\\\\'", "\"a\"", "`a`", "'\u00e4'", strings.Repeat("'", 1<<20), "'" + strings.Repeat("a", 1<<20) + "'"} {
		if lex.Literal(s) {
			t.Errorf("%q is none", s)
		}
	}
}

// P7.2: tokens stand one behind the other, where the text has them; names and literals are such, and stand there.
func TestInOrder(t *testing.T) {
	d := drawer(72)
	parts := slices.Concat(skips(), literals(), []string{"ab ", "c_.d\n", ":", "|", ";", "%token ", "%left\n", "%prec ", "%start "})
	signs := map[int]string{3: "%token", 4: "%left", 5: "%right", 6: "%nonassoc", 7: "%start", 8: "%prec", 9: "%%", 10: ":", 11: "|", 12: ";"}
	for range 600 {
		var b []byte
		for range d.below(50) {
			b = append(b, d.of(parts)...)
		}
		b = slices.Insert(b, 0, []byte("%%")...)
		l, end, e := lex.Tokens(b)
		if e != api.OK || indexOf(b, end) != len(b) {
			t.Fatalf("%q: %v %v", b, end, e)
		}
		behind := 0
		for _, x := range l {
			s := x.Text
			switch x.Kind {
			case api.TokName:
				if !lex.Name(s) {
					t.Fatalf("%q: %v is no name", b, x)
				}
			case api.TokLiteral:
				if !lex.Literal(s) {
					t.Fatalf("%q: %v is no literal", b, x)
				}
			default:
				s = signs[x.Kind]
			}
			i := indexOf(b, x.At)
			if s == "" || i < behind || !bytes.HasPrefix(b[i:], []byte(s)) {
				t.Fatalf("%q: %v", b, x)
			}
			behind = i + len(s)
		}
	}
}

// P7.2: names and literals, parted by blanks, are as many tokens, with just these texts.
func TestPartedByBlanks(t *testing.T) {
	d := drawer(73)
	l := append(names(), literals()...)
	for range 600 {
		var b []byte
		var want []api.Token
		for range d.below(100) {
			s := d.of(l)
			kind := api.TokName
			if s[0] == '\'' {
				kind = api.TokLiteral
			}
			b = append(b, d.of([]string{" ", "  ", "\n", "\t", "\r\n", "\n\n "})...)
			want = append(want, api.Token{Kind: kind, Text: s, At: placeOf(b, len(b))})
			b = append(b, s...)
		}
		got, end, e := lex.Tokens(b)
		if e != api.OK || end != placeOf(b, len(b)) || !slices.Equal(got, want) {
			t.Fatalf("%q: %v %v %v", b, got, end, e)
		}
	}
}
