package lex

import (
	"slices"
	"strings"
	"testing"
	"unsafe"

	"swath/api"
)

var allWords = strings.Fields("rec fn let if else while return out stop merge promote new arr len in img size null root")

var allSigns = strings.Fields("( ) { } [ ] , ; . = + - * / % << >> & | ^ == != < <= ! ~")

func name(text string) api.Token { return api.Token{Kind: api.TokName, Text: text} }

func word(text string) api.Token { return api.Token{Kind: api.TokWord, Text: text} }

func sign(text string) api.Token { return api.Token{Kind: api.TokSign, Text: text} }

func number(text string, n int64) api.Token { return api.Token{Kind: api.TokNum, Text: text, N: n} }

// wantTokens wants those tokens of s, each where its text comes next (notes ahead must not have it).
func wantTokens(t *testing.T, s string, want ...api.Token) {
	t.Helper()
	at := 0
	for i := range want {
		want[i].From = at + strings.Index(s[at:], want[i].Text)
		want[i].To = want[i].From + len(want[i].Text)
		at = want[i].To
	}
	wantEach(t, s, want)
	want = append(want, api.Token{Kind: api.TokEnd, From: len(s), To: len(s)})
	if l, place, e := Scan(s); e != api.OK || place != 0 || !slices.Equal(l, want) {
		t.Errorf("Scan(%q) is %v, %d, %d; wanted %v", s, l, place, e, want)
	}
}

func wantEach(t *testing.T, s string, want []api.Token) {
	t.Helper()
	if l := slices.Collect(Each(s)); !slices.Equal(l, want) {
		t.Errorf("Each(%q) is %v; wanted %v", s, l, want)
	}
}

// wantFault wants an error at a place, and by Each the tokens ahead of it.
func wantFault(t *testing.T, s string, place int, fault api.Errno) {
	t.Helper()
	l, at, e := Scan(s)
	if l != nil || at != place || e != fault {
		t.Errorf("Scan(%q) is %v, %d, %d; wanted %d, %d", s, l, at, e, place, fault)
		return
	}
	ahead, _, e := Scan(s[:place])
	if e != api.OK {
		t.Errorf("%q ahead of a fault is at fault: %d", s[:place], e)
		return
	}
	wantEach(t, s, ahead[:len(ahead)-1])
}

func TestExamples(t *testing.T) { // P4.1, P4.5
	wantTokens(t, "x<<=0x1F", name("x"), sign("<<"), sign("="), number("0x1F", 31))
	wantFault(t, "12a", 0, api.ErrNumber)
	wantTokens(t, "'a'", number("'a'", 97))
	wantLine(t, "a\nb", 2, 2, 1)
}

func TestNothing(t *testing.T) { // P4.1, P4.2
	for _, s := range []string{"", " ", "\t\n\r ", "//", "// x 12a @ 'ab'", "//\n", "\n//\n\n // end", "//////"} {
		wantTokens(t, s)
	}
	for range Each("") {
		t.Error("the empty text has a token")
	}
}

func TestEveryWord(t *testing.T) { // P4.1
	if len(allWords) != 19 {
		t.Fatal(len(allWords))
	}
	for _, w := range allWords {
		wantTokens(t, w, word(w))
		wantTokens(t, " "+w+"("+w+"\n", word(w), sign("("), word(w))
		upper := strings.ToUpper(w)
		for _, n := range []string{w + "s", w + "_", w + "0", w + w, "_" + w, "x" + w, upper, upper[:1] + w[1:], w[:len(w)-1] + "_"} {
			wantTokens(t, n, name(n))
			wantTokens(t, n+" "+w, name(n), word(w))
		}
	}
	wantTokens(t, "i f wh ile", name("i"), name("f"), name("wh"), name("ile"))
}

func TestNames(t *testing.T) { // P4.1
	for _, n := range []string{"a", "z", "A", "Z", "_", "__", "m", "M", "_0", "a0z9A_Z", "x1", "main", "abcdefghijklmnopqrstuvwxyz", "ABCDEFGHIJKLMNOPQRSTUVWXYZ_0123456789", strings.Repeat("q", 1000)} {
		wantTokens(t, n, name(n))
		wantTokens(t, "("+n+")", sign("("), name(n), sign(")"))
		wantTokens(t, n+"//"+n, name(n))
	}
}

func TestEverySign(t *testing.T) { // P4.1
	if len(allSigns) != 26 {
		t.Fatal(len(allSigns))
	}
	for _, x := range allSigns {
		wantTokens(t, x, sign(x))
		wantTokens(t, "a"+x+"b", name("a"), sign(x), name("b"))
		wantTokens(t, "1"+x+"'c'", number("1", 1), sign(x), number("'c'", 99))
		for _, y := range allSigns {
			wantTokens(t, x+" "+y, sign(x), sign(y))
		}
	}
}

func TestLongestSign(t *testing.T) { // P4.1
	for s, want := range map[string]string{
		"<<<": "<< <", "<<=": "<< =", "<<==": "<< ==", "<<<<": "<< <<", "<<<=": "<< <=", "<=<": "<= <", "<==": "<= =", "<===": "<= ==", "<!=": "< !=", "<>>": "< >>",
		"===": "== =", "====": "== ==", "=<=": "= <=", "=!=": "= !=", "==!": "== !", "!==": "!= =", "!!=": "! !=", "!===": "!= ==", "!<": "! <",
		">>=": ">> =", ">>>>": ">> >>", ">>==": ">> ==", ">><": ">> <", "=>>": "= >>",
		"--": "- -", "++": "+ +", "&&": "& &", "||": "| |", "+=": "+ =", "/=": "/ =", "/*": "/ *", "*/": "* /", "..": ". .", "~=": "~ =", "([{}])": "( [ { } ] )", "/ /": "/ /",
	} {
		var l []api.Token
		for _, x := range strings.Fields(want) {
			l = append(l, sign(x))
		}
		wantTokens(t, s, l...)
	}
}

func TestNumbers(t *testing.T) { // P4.1
	for s, n := range wholeNumbers() {
		wantTokens(t, s, number(s, n))
		wantTokens(t, "-"+s+";"+s, sign("-"), number(s, n), sign(";"), number(s, n))
		wantTokens(t, s+"// note", number(s, n))
	}
	for _, s := range noNumbers() {
		wantFault(t, s, 0, api.ErrNumber)
		wantFault(t, "ab //\n"+s, 6, api.ErrNumber)
	}
}

func TestNumbersSideBySide(t *testing.T) { // P4.1
	wantTokens(t, "'a'b", number("'a'", 97), name("b"))
	wantTokens(t, "b'a'", name("b"), number("'a'", 97))
	wantTokens(t, "'a''b'1", number("'a'", 97), number("'b'", 98), number("1", 1))
	wantTokens(t, "''''0'", number("'''", 39), number("'0'", 48))
	wantTokens(t, "1'1'", number("1", 1), number("'1'", 49))
	wantTokens(t, "1.5", number("1", 1), sign("."), number("5", 5))
	wantTokens(t, "x.0", name("x"), sign("."), number("0", 0))
	wantTokens(t, "0 x1", number("0", 0), name("x1"))
	wantTokens(t, "'/'//'", number("'/'", 47))
	wantTokens(t, "' ' '\"'", number("' '", 32), number("'\"'", 34))
	wantFault(t, "12\xc3\xa9", 2, api.ErrToken)
	wantFault(t, "12@", 2, api.ErrToken)
	wantFault(t, "'a'1z", 3, api.ErrNumber)
	wantFault(t, "'a''", 3, api.ErrNumber)
}

func TestBlanks(t *testing.T) { // P4.1
	for _, b := range []string{" ", "\t", "\n", "\r", "\r\n", " \t \n", "//\n", "// x 'q 1a @\n", "///\n", "//\t//\n", " // \xff\x00\n\r//\n"} {
		wantTokens(t, b+"v"+b+"w"+b, name("v"), name("w"))
		wantTokens(t, "i"+b+"f"+b, name("i"), name("f"))
		wantTokens(t, "1"+b+"2", number("1", 1), number("2", 2))
		wantTokens(t, "<"+b+"<"+b+"=", sign("<"), sign("<"), sign("="))
		wantTokens(t, "/ "+b+"+", sign("/"), sign("+"))
	}
	// A note ends with its line, not at a byte 13, and one that no byte 10 ends goes to the end.
	wantTokens(t, "y // z\rz\nw", name("y"), name("w"))
	wantTokens(t, "y // z w", name("y"))
	wantTokens(t, "y //", name("y"))
	wantTokens(t, "y /", name("y"), sign("/"))
	wantTokens(t, "//\n//\ny", name("y"))
}

func TestBytesThatBeginNothing(t *testing.T) { // P4.1
	begin := "_'/ \t\n\r"
	for _, x := range allSigns {
		begin += x[:1]
	}
	for c := 0; c < 256; c++ {
		b := string([]byte{byte(c)})
		if c == '>' || !strings.Contains(begin, b) && !('0' <= c && c <= '9' || 'a' <= c && c <= 'z' || 'A' <= c && c <= 'Z') {
			wantFault(t, b, 0, api.ErrToken)
			wantFault(t, " \n// "+b+"\n"+b, 7, api.ErrToken)
			wantFault(t, "ab"+b+"c", 2, api.ErrToken)
			wantFault(t, "1"+b, 1, api.ErrToken)
			wantFault(t, "("+b+" "+b, 1, api.ErrToken)
			wantTokens(t, "d//"+b, name("d"))
		} else if _, _, e := Scan(b); e != api.OK && c != '\'' {
			t.Errorf("Scan(%q): %d", b, e)
		}
	}
	wantFault(t, ">>>", 2, api.ErrToken)
	wantFault(t, ">=", 0, api.ErrToken)
	wantFault(t, "> >", 0, api.ErrToken)
	wantFault(t, "a > b", 2, api.ErrToken)
	wantFault(t, "é", 0, api.ErrToken)
}

func TestFirstFault(t *testing.T) { // P4.1
	wantFault(t, "fn f() { 1x @ }", 9, api.ErrNumber)
	wantFault(t, "fn f() { @ 1x }", 9, api.ErrToken)
	wantFault(t, "@1x", 0, api.ErrToken)
	wantFault(t, "1x@", 0, api.ErrNumber)
	wantFault(t, "'@ 1x", 0, api.ErrNumber)
	wantFault(t, "a '' 1x", 2, api.ErrNumber)
	wantFault(t, "a 1x ''", 2, api.ErrNumber)
	wantFault(t, "a # // 1x\n2y", 2, api.ErrToken)
	wantFault(t, "a // # 1x\n2y", 10, api.ErrNumber)
	wantFault(t, "x 9223372036854775807 9223372036854775808 $", 22, api.ErrNumber)
}

func TestLongTexts(t *testing.T) { // P4.1, P4.2
	blanks := strings.Repeat(" ", api.MaxSource)
	wantTokens(t, blanks)
	wantTokens(t, blanks[:api.MaxSource-1]+"y", name("y"))
	wantTokens(t, "y//"+blanks[3:], name("y"))
	nine := strings.Repeat("0", api.MaxSource-1) + "9"
	wantTokens(t, nine, number(nine, 9))
	if l, at, e := Scan(strings.Repeat("(", api.MaxSource)); len(l) != api.MaxSource+1 || at != 0 || e != api.OK {
		t.Error(len(l), at, e)
	}
	wantFault(t, blanks[2:]+"1x", api.MaxSource-2, api.ErrNumber)
	wantFault(t, blanks[2:]+"y'", api.MaxSource-1, api.ErrNumber)
	wantFault(t, blanks[2:]+"y@", api.MaxSource-1, api.ErrToken)
	for _, s := range []string{blanks + " ", blanks + "y", "@" + blanks, "1x" + blanks, "y//" + blanks, "y " + blanks + blanks, strings.Repeat("y", api.MaxSource+1)} {
		if l, at, e := Scan(s); l != nil || at != 0 || e != api.ErrLong {
			t.Errorf("%d bytes: %d, %d, %d", len(s), len(l), at, e)
		}
		wantEach(t, s, nil)
	}
}

func TestEachUpToAFault(t *testing.T) { // P4.2
	for s, n := range map[string]int{"a b 12b c": 2, "@": 0, "1": 1, "a @ b": 1, "a b c": 3, "a+'": 2, "'b'>": 1, "a // @\n b": 2} {
		l := slices.Collect(Each(s))
		if len(l) != n || slices.ContainsFunc(l, func(x api.Token) bool { return x.Kind == api.TokEnd }) {
			t.Errorf("Each(%q) is %v", s, l)
		}
	}
}

func TestEachLeftAndAgain(t *testing.T) { // P4.2
	const s = "let x = x + 1; // on\nout x; 5q"
	each := Each(s)
	all := slices.Collect(each)
	if len(all) != 10 {
		t.Fatal(all)
	}
	for most := 1; most <= len(all); most++ {
		var l []api.Token
		for x := range each {
			l = append(l, x)
			if len(l) == most {
				break
			}
		}
		if !slices.Equal(l, all[:most]) {
			t.Fatal("left behind", most, l)
		}
	}
	if again := slices.Collect(each); !slices.Equal(again, all) {
		t.Fatal("gone over again", again)
	}
	// Two that are under way at one time keep apart.
	pairs := 0
	for range each {
		for range each {
			pairs++
		}
	}
	if pairs != len(all)*len(all) {
		t.Fatal(pairs)
	}
}

func TestAnswersApart(t *testing.T) { // P2, P6
	one, _, _ := Scan("fn f(x) { return 'a'; }")
	same, _, _ := Scan("fn f(x) { return 'a'; }")
	want := slices.Clone(same)
	for i := range one {
		if one[i].Kind != api.TokNum && one[i].N != 0 {
			t.Fatal(one[i])
		}
		one[i] = api.Token{}
	}
	if !slices.Equal(same, want) {
		t.Fatal(same)
	}
}

func TestTextsOfTheirOwn(t *testing.T) { // P2
	s := strings.Repeat("fn f(x) { return x << 0x1F; } // n\n", 3)
	first := uintptr(unsafe.Pointer(unsafe.StringData(s)))
	l, _, _ := Scan(s)
	for _, x := range append(l[:len(l)-1], slices.Collect(Each(s))...) {
		if at := uintptr(unsafe.Pointer(unsafe.StringData(x.Text))); at >= first && at < first+uintptr(len(s)) {
			t.Fatal("a token's text lies in the description", x)
		}
	}
}
