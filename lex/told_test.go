package lex

import (
	"math/big"
	"regexp"
	"slices"
	"strings"
	"testing"

	"swath/api"
)

// The chapter's sentences as patterns, which this package's own way of scanning is held against.
var (
	between    = regexp.MustCompile(`^(?:[ \t\n\r]|//[^\n]*)*`)
	onlyThese  = regexp.MustCompile(`^(?:[ \t\n\r]|//[^\n]*(?:\n|$))*$`)
	wordOrName = regexp.MustCompile(`^[a-zA-Z_][a-zA-Z0-9_]*`)
	fromDigit  = regexp.MustCompile(`^[0-9][a-zA-Z0-9_]*`)
	sixteens   = regexp.MustCompile(`^0x[0-9a-fA-F]+$`)
	tens       = regexp.MustCompile(`^[0-9]+$`)
	quotedByte = regexp.MustCompile(`^'[ -~]'`)
	anySign    = regexp.MustCompile(`^(?:<<|>>|==|!=|<=|[(){}\[\],;.=+\-*/%&|^<!~])`)
)

// toldNumber is the number that a text is by the patterns.
func toldNumber(text string) (int64, bool) {
	n := new(big.Int)
	switch {
	case quotedByte.FindString(text) == text && text != "":
		return int64(text[1]), true
	case sixteens.MatchString(text):
		n.SetString(text[2:], 16)
	case tens.MatchString(text):
		n.SetString(text, 10)
	default:
		return 0, false
	}
	if !n.IsInt64() {
		return 0, false
	}
	return n.Int64(), true
}

// toldToken is the first token of s by the patterns; its text is empty where there is none, the kind then that of the fault.
func toldToken(s string) api.Token {
	if text := wordOrName.FindString(s); text != "" {
		kind := api.TokName
		if slices.Contains(allWords, text) {
			kind = api.TokWord
		}
		return api.Token{Kind: kind, Text: text}
	}
	if strings.ContainsAny(s[:1], "0123456789'") {
		text := fromDigit.FindString(s) + quotedByte.FindString(s)
		if n, ok := toldNumber(text); ok {
			return api.Token{Kind: api.TokNum, Text: text, N: n}
		}
		return api.Token{Kind: api.TokNum}
	}
	return api.Token{Kind: api.TokSign, Text: anySign.FindString(s)}
}

// told is what Scan should answer, and the tokens ahead of a fault.
func told(s string) ([]api.Token, int, api.Errno) {
	var l []api.Token
	for at := 0; ; {
		at += len(between.FindString(s[at:]))
		if at == len(s) {
			return l, 0, api.OK
		}
		t := toldToken(s[at:])
		if t.Text == "" && t.Kind == api.TokNum {
			return l, at, api.ErrNumber
		}
		if t.Text == "" {
			return l, at, api.ErrToken
		}
		t.From, t.To = at, at+len(t.Text)
		l = append(l, t)
		at = t.To
	}
}

// wantTold holds all calls of one text against the patterns.
func wantTold(t *testing.T, s string) {
	t.Helper()
	want, place, fault := told(s)
	wantEach(t, s, want)
	if fault == api.OK {
		want = append(want, api.Token{From: len(s), To: len(s)})
		wantAllThere(t, s)
	} else {
		want = nil
	}
	if l, at, e := Scan(s); !slices.Equal(l, want) || at != place || e != fault {
		t.Errorf("Scan(%q) is %v, %d, %d; wanted %v, %d, %d", s, l, at, e, want, place, fault)
	}
	wantNumber, is := toldNumber(s)
	if n, ok := Number(s); n != wantNumber || ok != is {
		t.Errorf("Number(%q) is %d, %v", s, n, ok)
	}
	isName := s != "" && wordOrName.FindString(s) == s && !slices.Contains(allWords, s)
	if Name(s) != isName {
		t.Errorf("Name(%q) is %v", s, !isName)
	}
}

// wantAllThere wants tokens in order that are the text's own bytes, with blanks and notes alone between.
func wantAllThere(t *testing.T, s string) {
	t.Helper()
	l, _, _ := Scan(s)
	at := 0
	for i, x := range l {
		last := i == len(l)-1
		if x.From < at || x.To < x.From || x.To > len(s) || (x.Kind == api.TokEnd) != last || (x.From == x.To) != last {
			t.Fatalf("%q: a token that may not stand there: %v", s, x)
		}
		if x.Text != s[x.From:x.To] || !onlyThese.MatchString(s[at:x.From]) {
			t.Fatalf("%q: behind %d stands %v", s, at, x)
		}
		at = x.To
	}
	if at != len(s) {
		t.Fatalf("%q: the end is told at %d", s, at)
	}
}

// Every short text of bytes at which something turns.
func TestShortTexts(t *testing.T) { // P4.1 to P4.4
	const alphabet = "ax09F_'<>=!/\n @\x80"
	texts := []string{""}
	for range 4 {
		var longer []string
		for _, s := range texts {
			wantTold(t, s)
			for i := range len(alphabet) {
				longer = append(longer, s+alphabet[i:i+1])
			}
		}
		texts = longer
	}
	for _, s := range texts {
		wantTold(t, s)
		if t.Failed() {
			return
		}
	}
}

// mixedTexts are texts of pieces put behind one another without a pattern, the same in every run.
func mixedTexts(count int) []string {
	pieces := append(append([]string{" ", "\n", "\t", "\r", "// n\n", "//", "x", "_y1", "0x7F", "12", "'q'", "''", "''' ", "12x", ">", "@", "\xc3\xa9", "9223372036854775807 ", "9223372036854775808"}, allWords...), allSigns...)
	var l []string
	x := uint64(88172645463325252)
	next := func(n int) int {
		x ^= x << 13
		x ^= x >> 7
		x ^= x << 17
		return int(x % uint64(n))
	}
	for range count {
		var s strings.Builder
		for range next(30) {
			s.WriteString(pieces[next(len(pieces))])
			if next(2) == 0 {
				s.WriteString(" ")
			}
		}
		l = append(l, s.String())
	}
	return l
}

func TestMixedTexts(t *testing.T) { // P4.1 to P4.4
	faults := 0
	for _, s := range mixedTexts(3000) {
		wantTold(t, s)
		if _, _, e := Scan(s); e != api.OK {
			faults++
		}
	}
	if faults < 100 || faults > 2900 {
		t.Error("the texts tell little:", faults, "of 3000 are at fault")
	}
}

func TestAllIsThere(t *testing.T) { // P4.4
	for _, s := range []string{
		"", " ", "// n", "a", " a ", "fn main() { let n = 100; let s = 0; while n { merge(); s = s + n; n = n - 1; } return s; }",
		"rec p { a, b } // a pair\r\nfn f(x, y) {\n\tx.a[1] = -x * 0xFF << 2; // on\n\tif x <= y { out ' '; } else { stop null; }\n}\n//",
	} {
		wantAllThere(t, s)
	}
}

func FuzzScan(f *testing.F) {
	for _, s := range mixedTexts(20) {
		f.Add(s)
	}
	f.Fuzz(func(t *testing.T, s string) {
		if len(s) <= api.MaxSource {
			wantTold(t, s)
		}
	})
}
