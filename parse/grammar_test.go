package parse

import (
	"math/rand"
	"regexp"
	"slices"
	"strings"
	"testing"

	"swath/api"
	"swath/lex"
)

// grammar is the chapter's, but that its sentence on statements that begin as expressions do is written out as place and call.
const grammar = `
program = { decl }
decl    = "rec" name "{" [ name { "," name } ] "}" | "fn" name "(" [ name { "," name } ] ")" block
block   = "{" { stmt } "}"
stmt    = "let" name "=" expr ";" | "if" expr block [ "else" block ] | "while" expr block | "return" expr ";" | "out" expr ";" | "stop" expr ";" | "merge" "(" [ name { "," name } ] ")" ";" | place "=" expr ";" | call ";"
place   = name | "root" | back ( "." name | "[" expr "]" ) | "(" place ")"
call    = name "(" [ expr { "," expr } ] ")" | "(" call ")"
expr    = or [ ( "==" | "!=" | "<" | "<=" ) or ]
or      = and { ( "|" | "^" ) and }
and     = shift { "&" shift }
shift   = sum { ( "<<" | ">>" ) sum }
sum     = product { ( "+" | "-" ) product }
product = sign { ( "*" | "/" | "%" ) sign }
sign    = ( "-" | "!" | "~" ) sign | back
back    = first { "." name | "[" expr "]" }
first   = number | "null" | "root" | name [ "(" [ expr { "," expr } ] ")" ] | "new" name | "arr" "(" expr ")" | "len" "(" expr ")" | "in" "(" ")" | "img" "(" expr ")" | "size" "(" ")" | "promote" "(" expr ")" | "(" expr ")"
`

// form is a piece of the grammar: a token, a rule's name, pieces behind one another, a choice, what may be absent, what may come again.
type form struct {
	sort  byte // t, r, s, c, [, {
	text  string
	parts []*form
}

// stack is what is still to come, next on top.
type stack struct {
	top  *form
	rest *stack
}

// machine goes through tokens with all stacks that may be: what none of them goes on with no description does.
type machine struct {
	rules map[string]*form
	made  map[stack]*stack
}

func newMachine() *machine {
	m := &machine{map[string]*form{}, map[stack]*stack{}}
	piece := regexp.MustCompile(`"[^"]*"|[a-z]+|[|()\[\]{}]`)
	for _, line := range strings.Split(strings.TrimSpace(grammar), "\n") {
		name, right, _ := strings.Cut(line, "=")
		pieces := piece.FindAllString(right, -1)
		m.rules[strings.TrimSpace(name)] = readChoice(&pieces)
	}
	return m
}

// readChoice reads choices up to a bracket that closes them.
func readChoice(pieces *[]string) *form {
	choice := &form{sort: 'c', parts: []*form{{sort: 's'}}}
	for len(*pieces) > 0 {
		p := (*pieces)[0]
		*pieces = (*pieces)[1:]
		last := choice.parts[len(choice.parts)-1]
		switch p[0] {
		case ')', ']', '}':
			return choice
		case '|':
			choice.parts = append(choice.parts, &form{sort: 's'})
		case '(':
			last.parts = append(last.parts, readChoice(pieces))
		case '[', '{':
			last.parts = append(last.parts, &form{sort: p[0], parts: []*form{readChoice(pieces)}})
		case '"':
			last.parts = append(last.parts, &form{sort: 't', text: strings.Trim(p, `"`)})
		default:
			sort := byte('r')
			if p == "name" || p == "number" {
				sort = 't'
			}
			last.parts = append(last.parts, &form{sort: sort, text: p})
		}
	}
	return choice
}

// push is the one stack with that top and that rest, so that equal ones are one.
func (m *machine) push(top *form, rest *stack) *stack {
	key := stack{top, rest}
	if m.made[key] == nil {
		m.made[key] = &key
	}
	return m.made[key]
}

// ready adds the stacks that s may become with a token on top; nil, if all may be over.
func (m *machine) ready(s *stack, all map[*stack]bool) {
	if s == nil || s.top.sort == 't' {
		all[s] = true
		return
	}
	switch s.top.sort {
	case 'r':
		m.ready(m.push(m.rules[s.top.text], s.rest), all)
	case 's':
		rest := s.rest
		for _, part := range slices.Backward(s.top.parts) {
			rest = m.push(part, rest)
		}
		m.ready(rest, all)
	case 'c':
		for _, part := range s.top.parts {
			m.ready(m.push(part, s.rest), all)
		}
	case '[':
		m.ready(s.rest, all)
		m.ready(m.push(s.top.parts[0], s.rest), all)
	case '{':
		m.ready(s.rest, all)
		m.ready(m.push(s.top.parts[0], s), all)
	}
}

func (m *machine) begin() map[*stack]bool {
	all := map[*stack]bool{}
	m.ready(m.push(m.rules["program"], nil), all)
	return all
}

// step is the stacks behind a token; none, if no description goes on with it.
func (m *machine) step(now map[*stack]bool, token string) map[*stack]bool {
	all := map[*stack]bool{}
	for s := range now {
		if s != nil && s.top.text == token {
			m.ready(s.rest, all)
		}
	}
	return all
}

// inGrammar is what a token is in the grammar.
func inGrammar(t api.Token) string {
	switch t.Kind {
	case api.TokName:
		return "name"
	case api.TokNum:
		return "number"
	}
	return t.Text
}

// promised is the place and the error that P6.1 says of a description with few nodes that are not deep.
func (m *machine) promised(s string) (int, api.Errno) {
	tokens, at, e := lex.Scan(s)
	if e != api.OK {
		return at, e
	}
	var open []string
	for _, t := range tokens {
		if t.Kind == api.TokSign && strings.Contains("([{", t.Text) {
			open = append(open, t.Text)
		}
		if t.Kind == api.TokSign && strings.Contains(")]}", t.Text) && len(open) > 0 {
			open = open[1:]
		}
		if len(open) == 151 {
			return t.From, api.ErrDeep
		}
	}
	now := m.begin()
	for _, t := range tokens[:len(tokens)-1] {
		if now = m.step(now, inGrammar(t)); len(now) == 0 {
			return t.From, api.ErrSyntax
		}
	}
	if !now[nil] {
		return len(s), api.ErrSyntax
	}
	return 0, api.OK
}

// wantPromised wants what the grammar says of a description.
func (m *machine) wantPromised(t *testing.T, s string) api.Errno {
	t.Helper()
	at, e := m.promised(s)
	if e == api.OK {
		taken(t, s)
	} else {
		wantFault(t, s, at, e)
	}
	return e
}

// everyToken has each word, each sign, and of names and numbers one.
func everyToken() []string {
	return slices.Concat(words, signs, []string{"q", "7"})
}

// wantGoingOn tries every token behind a text whose stacks are known, and those that may stand there up to that many tokens more.
func (m *machine) wantGoingOn(t *testing.T, s string, now map[*stack]bool, more int) {
	t.Helper()
	for _, token := range everyToken() {
		if t.Failed() {
			return
		}
		longer := s + " " + token
		next := m.step(now, strings.NewReplacer("q", "name", "7", "number").Replace(token))
		if len(next) == 0 {
			wantFault(t, longer, len(s)+1, api.ErrSyntax)
			wantFault(t, longer+" }", len(s)+1, api.ErrSyntax)
			continue
		}
		if next[nil] {
			taken(t, longer)
		} else {
			wantFault(t, longer, len(longer), api.ErrSyntax)
		}
		if more > 1 {
			m.wantGoingOn(t, longer, next, more-1)
		}
	}
}

func (m *machine) behind(t *testing.T, s string) map[*stack]bool {
	t.Helper()
	tokens, _, _ := lex.Scan(s)
	now := m.begin()
	for _, x := range tokens[:len(tokens)-1] {
		now = m.step(now, inGrammar(x))
	}
	if len(now) == 0 {
		t.Fatal("no description begins with", s)
	}
	return now
}

func TestEveryTokenBehind(t *testing.T) { // P6.1
	m := newMachine()
	m.wantGoingOn(t, "", m.begin(), 6)
	for _, s := range []string{
		"rec q {", "rec q { } fn q (", "fn q ( q ) {", "fn q ( ) { }",
		"fn q ( ) { let q =", "fn q ( ) { let q = q", "fn q ( ) { if", "fn q ( ) { if q", "fn q ( ) { if q { }", "fn q ( ) { if q { } else", "fn q ( ) { if q { } else { }", "fn q ( ) { while", "fn q ( ) { while q { }",
		"fn q ( ) { return", "fn q ( ) { out 7", "fn q ( ) { stop ( q", "fn q ( ) { merge", "fn q ( ) { merge ( q", "fn q ( ) { merge ( q )",
		"fn q ( ) { q", "fn q ( ) { q .", "fn q ( ) { q . q", "fn q ( ) { q [", "fn q ( ) { q [ q", "fn q ( ) { q [ q ]", "fn q ( ) { q (", "fn q ( ) { q ( q", "fn q ( ) { q ( )", "fn q ( ) { (", "fn q ( ) { ( q", "fn q ( ) { ( q )", "fn q ( ) { ( ( root", "fn q ( ) { ( q ( )", "fn q ( ) { ( q ( ) )", "fn q ( ) { 7", "fn q ( ) { new q", "fn q ( ) { q =",
		"fn q ( ) { return q ==", "fn q ( ) { return q == q", "fn q ( ) { return ( q < q", "fn q ( ) { return ( q < q )", "fn q ( ) { return q [ q != q", "fn q ( ) { return q | q", "fn q ( ) { return - q", "fn q ( ) { return q -", "fn q ( ) { return in", "fn q ( ) { return arr", "fn q ( ) { return arr ( q", "fn q ( ) { return arr ( q )", "fn q ( ) { return new",
	} {
		m.wantGoingOn(t, s, m.behind(t, s), 2)
	}
}

// TestWalks goes on by chance with tokens that may come, and tries every other one on the way.
func TestWalks(t *testing.T) { // P6.1
	m, chance := newMachine(), rand.New(rand.NewSource(6))
	for range 30 {
		s, now := "", m.begin()
		for range 60 {
			m.wantGoingOn(t, s, now, 1)
			if t.Failed() {
				return
			}
			token, next := "", map[*stack]bool{}
			for len(next) == 0 {
				all := everyToken()
				token = all[chance.Intn(len(all))]
				next = m.step(now, strings.NewReplacer("q", "name", "7", "number").Replace(token))
			}
			s, now = s+" "+token, next
		}
	}
}

// spoiled is a description with one of its tokens left out, put twice, changed for another, put elsewhere, or all behind it left out.
func spoiled(chance *rand.Rand, s string) string {
	tokens, _, _ := lex.Scan(s)
	tokens = tokens[:len(tokens)-1]
	if len(tokens) == 0 {
		return everyToken()[chance.Intn(40)]
	}
	x := tokens[chance.Intn(len(tokens))]
	y := tokens[chance.Intn(len(tokens))]
	other := " " + everyToken()[chance.Intn(len(everyToken()))] + " "
	switch chance.Intn(7) {
	case 0:
		return s[:x.From] + " " + s[x.To:]
	case 1:
		return s[:x.To] + " " + s[x.From:]
	case 2:
		return s[:x.From] + other + s[x.To:]
	case 3:
		return s[:x.From] + other + s[x.From:]
	case 4:
		return s[:x.From] + " " + y.Text + " " + s[x.To:]
	case 5:
		return s[:x.To]
	}
	return s[:x.From] + s[min(y.To, len(s)):]
}

func TestSpoiled(t *testing.T) { // P6.1
	m, chance := newMachine(), rand.New(rand.NewSource(66))
	ended := map[api.Errno]int{}
	for range 3000 {
		s := chanceText(chance).text
		for range 1 + chance.Intn(3) {
			s = spoiled(chance, s)
		}
		ended[m.wantPromised(t, s)]++
		if t.Failed() {
			return
		}
	}
	if ended[api.OK] < 100 || ended[api.ErrSyntax] < 1000 {
		t.Error("the texts tell little:", ended)
	}
}

// TestAnyBytes throws pieces and bytes together: each text has a place and an error, or a tree.
func TestAnyBytes(t *testing.T) { // P6.1
	m, chance := newMachine(), rand.New(rand.NewSource(666))
	pieces := slices.Concat(everyToken(), []string{"fn f() {", "; }", "fn f(x) { return ", "rec P { a", "// n\n", "\n", "0x1F", "'a'", "@", "\x00", "\xff", "é", "9223372036854775808", "\"", "'", "#", "//"})
	ended := map[api.Errno]int{}
	for range 20000 {
		s := ""
		for range chance.Intn(12) {
			s += pieces[chance.Intn(len(pieces))] + " "[:chance.Intn(2)]
		}
		ended[m.wantPromised(t, s)]++
		raw := make([]byte, chance.Intn(20))
		for i := range raw {
			raw[i] = byte(chance.Intn(256))
		}
		ended[m.wantPromised(t, string(raw))]++
		if t.Failed() {
			return
		}
	}
	for _, e := range []api.Errno{api.OK, api.ErrToken, api.ErrNumber, api.ErrSyntax} {
		if ended[e] < 50 {
			t.Error("error", e, "came", ended[e], "times")
		}
	}
}

func FuzzProgram(f *testing.F) {
	chance := rand.New(rand.NewSource(6666))
	for range 20 {
		f.Add(chanceText(chance).text)
	}
	m := newMachine()
	f.Fuzz(func(t *testing.T, s string) {
		// Longer ones may have too many nodes, or too deep ones, of which the grammar says nothing.
		if len(s) < 190 {
			m.wantPromised(t, s)
		}
	})
}
