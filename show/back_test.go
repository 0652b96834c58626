package show

import (
	"math/rand"
	"slices"
	"strings"
	"testing"

	"swath/api"
	"swath/lex"
	"swath/parse"
)

// speaker speaks descriptions by chance, by the grammar's lines, token behind token; the deeper it is the shorter it speaks.
type speaker struct {
	*rand.Rand
	tokens []string
	deep   int
}

func (s *speaker) say(text string) {
	s.tokens = append(s.tokens, strings.Fields(text)...)
}

// often tells whether to go on, ever less often the deeper things stand.
func (s *speaker) often() bool { return s.Intn(2+s.deep) == 0 }

func (s *speaker) name() {
	s.say([]string{"x", "y", "main", "_", "a1", "Let", "roots", "i", "f"}[s.Intn(9)])
}

func (s *speaker) number() {
	s.say([]string{"0", "1", "42", "007", "0x1F", "'a'", "'0'", "9223372036854775807", "0x7fffffffffffffff"}[s.Intn(9)])
}

// listed says things with commas between, in brackets.
func (s *speaker) listed(open string, thing func(), closing string) {
	s.say(open)
	for i := range s.Intn(4) {
		if i > 0 {
			s.say(",")
		}
		thing()
	}
	s.say(closing)
}

func (s *speaker) program() {
	for range s.Intn(4) {
		if s.Intn(3) == 0 {
			s.say("rec")
			s.name()
			s.listed("{", s.name, "}")
			continue
		}
		s.say("fn")
		s.name()
		s.listed("(", s.name, ")")
		s.block()
	}
}

func (s *speaker) block() {
	s.deep++
	s.say("{")
	for s.Intn(3+s.deep) < 3 {
		s.statement()
	}
	s.say("}")
	s.deep--
}

func (s *speaker) statement() {
	switch k := s.Intn(9); k {
	case 0:
		s.say("let")
		s.name()
		s.say("=")
		s.expression()
		s.say(";")
	case 1, 2:
		s.say([]string{"if", "while"}[k-1])
		s.expression()
		s.block()
		if k == 1 && s.Intn(2) == 0 {
			s.say("else")
			s.block()
		}
	case 3, 4, 5:
		s.say([]string{"return", "out", "stop"}[k-3])
		s.expression()
		s.say(";")
	case 6:
		s.say("merge")
		s.listed("(", s.name, ")")
		s.say(";")
	case 7:
		s.place()
		s.say("=")
		s.expression()
		s.say(";")
	default:
		s.inParentheses(s.call)
		s.say(";")
	}
}

// inParentheses says a thing, sometimes with parentheses about it.
func (s *speaker) inParentheses(thing func()) {
	n := max(0, s.Intn(8)-5)
	s.say(strings.Repeat("( ", n))
	thing()
	s.say(strings.Repeat(") ", n))
}

func (s *speaker) place() {
	s.inParentheses(func() {
		switch s.Intn(3) {
		case 0:
			s.name()
		case 1:
			s.say("root")
		default:
			s.back()
			s.behind()
		}
	})
}

func (s *speaker) call() {
	s.name()
	s.listed("(", s.expression, ")")
}

func (s *speaker) expression() {
	s.deep++
	s.chain(1)
	if s.Intn(3) == 0 {
		s.say(operators[0][s.Intn(4)])
		s.chain(1)
	}
	s.deep--
}

func (s *speaker) chain(line int) {
	if line == len(operators) {
		for s.Intn(4) == 0 {
			s.say(signs[s.Intn(3)])
		}
		s.back()
		return
	}
	s.chain(line + 1)
	for s.Intn(4+s.deep) == 0 {
		s.say(operators[line][s.Intn(len(operators[line]))])
		s.chain(line + 1)
	}
}

func (s *speaker) back() {
	s.first()
	for s.often() {
		s.behind()
	}
}

func (s *speaker) behind() {
	if s.Intn(2) == 0 {
		s.say(".")
		s.name()
		return
	}
	s.say("[")
	s.expression()
	s.say("]")
}

func (s *speaker) first() {
	if !s.often() {
		[]func(){s.number, s.name, s.name, func() { s.say("null") }, func() { s.say("root") }, func() { s.say("in ( )") }, func() { s.say("size ( )") }, func() { s.say("new P") }}[s.Intn(8)]()
		return
	}
	switch k := s.Intn(8); k {
	case 0, 1, 2, 3:
		s.say([]string{"arr", "len", "img", "promote"}[k])
	case 4, 5:
		s.call()
		return
	}
	s.say("(")
	s.expression()
	s.say(")")
}

// chanceText is a description by chance, with blanks and notes by chance.
func chanceText(chance *rand.Rand) string {
	s := speaker{Rand: chance}
	s.program()
	text := ""
	for _, token := range s.tokens {
		text += token + []string{" ", " ", "  ", "\n", "\t", "\r\n", " // ) } ] 1 let\n", " //\n"}[chance.Intn(8)]
	}
	return text
}

// wantThereAndBack wants a description's tree to be read again from what it is shown as, and that to be shown as the same text; it answers the text.
func wantThereAndBack(t *testing.T, s string) string {
	t.Helper()
	l := taken(t, s)
	text, e := Program(l)
	if e != api.OK {
		t.Fatalf("%d of\n%.2000s", e, s)
	}
	again, at, e := parse.Program(text)
	if e != api.OK || !sameNodes(again, l) {
		t.Fatalf("%.2000s\nis shown as\n%.2000s\nwhich isn't read as it: %d, %d", s, text, at, e)
	}
	wantShown(t, again, text)
	return text
}

func TestThereAndBackByChance(t *testing.T) { // P7.3
	chance := rand.New(rand.NewSource(73))
	times := make([]int, api.NodeRoot+1)
	for range 4000 {
		s := chanceText(chance)
		text := wantThereAndBack(t, s)
		wantLaidOut(t, text)
		l := taken(t, s)
		wantNoneNeedless(t, text, l)
		// Another order of the nodes and other places are shown as the same.
		wantShown(t, scattered(chance, l), text)
		for _, n := range l {
			times[n.Kind]++
		}
		if t.Failed() {
			return
		}
	}
	for kind := api.NodeProgram; kind <= api.NodeRoot; kind++ {
		if times[kind] < 500 {
			t.Error("kind", kind, "came", times[kind], "times")
		}
	}
}

// TestEveryLineOfTheGrammar brings back what each of its lines may be.
func TestEveryLineOfTheGrammar(t *testing.T) { // P7.3
	for _, s := range []string{
		"", " // nothing\n", "rec P{}", "rec P{a}rec Q{a,b,c}", "fn f(){}", "fn f(a){}fn g(a,b,c){}", "fn f(){}rec P{}fn g(){}",
		"fn f(){let x=1;x=2;root=3;x.a=4;x[0]=5;(((x)))=6;((x.a))[1]=7;(root)=8;}",
		"fn f(){if 1{}if 1{}else{}if 1{if 2{}else{}}else{if 3{}}while 1{}while 1{while 2{merge();}}}",
		"fn f(){return 1;out 2;stop 3;merge();merge(a);merge(a,b,c);f();f(1);f(1,2,3);((f(1)));}",
		"fn f(){return a==b;return a!=b;return a<b;return a<=b;return (a<b)<c;return a<(b<c);}",
		"fn f(){return a|b^c|d;return a|(b^c);return a&b&c;return a&(b&c);return a<<b>>c;return a<<(b>>c);}",
		"fn f(){return a+b-c;return a+(b-c);return a*b/c%d;return a*(b/(c%d));return -a;return !~-a;return - -1;return (-a)*-b;}",
		"fn f(){return a.b.c[1][2].d;return (a.b).c;return (a+b).c;return (-a)[1];return -a[1];return a[(b)];}",
		"fn f(){return 0x10;return 'a';return 000;return 0012;return null;return root;return x;return f();return f(1);return f((1),2);return new P;return new P.a;}",
		"fn f(){return arr(1);return len((x));return in();return img(1+2);return size();return promote(a==b);return((((1))));}",
	} {
		wantLaidOut(t, wantThereAndBack(t, s))
	}
}

func TestFarThereAndBack(t *testing.T) { // P7.3
	deep := func(n int, open, inner, closing string) string {
		return "fn f() { return " + strings.Repeat(open, n) + inner + strings.Repeat(closing, n) + "; }"
	}
	for _, s := range []string{
		deep(149, "(", "x", ")"), deep(149, "1 - (", "x", ")"), deep(97, "-(1 + ", "x", ")"), deep(149, "f(", "x", ")"), deep(149, "x[", "x", "]"), deep(97, "(1 == ", "x", ").a"),
		deep(195, "-", "x", ""), deep(195, "", "x", ".a"), deep(190, "1 + ", "x", ""), deep(190, "", "x", " - 1"),
		"fn f() {" + strings.Repeat("while 1 {", 98) + strings.Repeat("}", 99),
		"fn f() {" + strings.Repeat("if 1 {} else {", 98) + strings.Repeat("}", 99),
		"rec P{" + strings.Repeat("a,", api.MaxNodes-3) + "a}",
		"fn f(){" + strings.Repeat("f();", 10000) + "}",
	} {
		wantThereAndBack(t, s)
	}
	// Lines that are moved in bring it beyond what may be read, or shown.
	moved := func(statements int) string {
		return "fn f(){" + strings.Repeat("if 1{", 95) + strings.Repeat("f();", statements) + strings.Repeat("}", 96)
	}
	wantThereAndBack(t, moved(100))
	text, e := Program(taken(t, moved(1000)))
	if _, at, read := parse.Program(text); e != api.OK || len(text) <= api.MaxSource || at != 0 || read != api.ErrLong {
		t.Error(e, len(text), at, read)
	}
	if text, e := Program(taken(t, moved(20000))); text != "" || e != api.ErrLong {
		t.Error(len(text), e)
	}
}

// between tells whether token i stands between two sides.
func between(tokens []api.Token, i int) bool {
	t := tokens[i]
	if t.Text == "=" {
		return true
	}
	isOperator := slices.ContainsFunc(operators, func(line []string) bool { return slices.Contains(line, t.Text) })
	ahead := tokens[max(i-1, 0)]
	return isOperator && (ahead.Kind == api.TokName || ahead.Kind == api.TokNum || slices.Contains([]string{")", "]", "null", "root"}, ahead.Text))
}

// laidOut puts the tokens of a description as the chapter says lines and blanks stand.
func laidOut(s string) string {
	tokens, _, _ := lex.Scan(s)
	var text strings.Builder
	about, fields := 0, false
	for i, t := range tokens[:len(tokens)-1] {
		next := tokens[i+1].Text
		text.WriteString(t.Text)
		ends := t.Text == ";" || t.Text == "{" && !fields || t.Text == "}" && next != "else"
		switch {
		case ends:
			if t.Text == "{" {
				about++
			}
			if next == "}" {
				about--
			}
			text.WriteString("\n" + strings.Repeat("    ", about))
		case between(tokens, i) || between(tokens, i+1) || next == "{" || next == "else" || strings.Contains(" , rec fn let if while return out stop new else ", " "+t.Text+" "):
			text.WriteString(" ")
		}
		fields = t.Text == "rec" || fields && t.Text != "}"
	}
	return text.String()
}

func wantLaidOut(t *testing.T, text string) {
	t.Helper()
	if want := laidOut(text); text != want {
		t.Errorf("is laid out as\n%s\nwanted\n%s", text, want)
	}
}

// wantNoneNeedless takes each pair of parentheses off that is about a side: without it the grammar must read it otherwise.
func wantNoneNeedless(t *testing.T, text string, l []api.Node) {
	t.Helper()
	tokens, _, _ := lex.Scan(text)
	var open []int
	for i, token := range tokens {
		switch token.Text {
		case "(":
			open = append(open, i)
		case ")":
			from := open[len(open)-1]
			open = open[:len(open)-1]
			ahead := tokens[max(from-1, 0)]
			if ahead.Kind == api.TokName || strings.Contains(" arr len in img size promote merge ", " "+ahead.Text+" ") {
				continue
			}
			without := text[:tokens[from].From] + " " + text[tokens[from].To:token.From] + " " + text[token.To:]
			if other, _, e := parse.Program(without); e == api.OK && sameNodes(other, l) {
				t.Fatalf("needless parentheses at %d, %d of\n%s", tokens[from].From, token.From, text)
			}
		}
	}
}

func FuzzThereAndBack(f *testing.F) {
	chance := rand.New(rand.NewSource(75))
	for range 20 {
		f.Add(chanceText(chance))
	}
	f.Fuzz(func(t *testing.T, s string) {
		l, _, e := parse.Program(s)
		if e != api.OK {
			wantFault(t, l, api.ErrTree)
			return
		}
		// Longer ones may come out too long to be read again.
		if len(s) < 1000 {
			text := wantThereAndBack(t, s)
			wantLaidOut(t, text)
			wantNoneNeedless(t, text, l)
		}
	})
}
