package lex

import (
	"math"
	"strings"
	"testing"
)

// wholeNumbers are texts of all three forms up to their edges, with the numbers that they are.
func wholeNumbers() map[string]int64 {
	all := map[string]int64{
		"0": 0, "1": 1, "9": 9, "10": 10, "007": 7, "00": 0, "1234567890": 1234567890, "4294967296": 1 << 32,
		"9223372036854775806": math.MaxInt64 - 1, "9223372036854775807": math.MaxInt64, "0009223372036854775807": math.MaxInt64, strings.Repeat("0", 500) + "5": 5,
		"0x0": 0, "0x9": 9, "0xa": 10, "0xf": 15, "0xA": 10, "0xF": 15, "0x1F": 31, "0x1f": 31, "0xaB": 171, "0x0123456789": 0x0123456789, "0xabcdef": 0xabcdef, "0xABCDEF": 0xabcdef, "0x10": 16, "0xFFFFFFFF": 1<<32 - 1,
		"0x7fffffffffffffff": math.MaxInt64, "0x7FFFFFFFFFFFFFFE": math.MaxInt64 - 1, "0x0007fffffffffffffff": math.MaxInt64, "0x" + strings.Repeat("0", 500) + "e": 14,
	}
	for c := byte(32); c <= 126; c++ {
		all["'"+string([]byte{c})+"'"] = int64(c)
	}
	return all
}

// noNumbers are texts that begin as numbers do, up to where nothing goes on, but are none.
func noNumbers() []string {
	l := []string{
		"9223372036854775808", "9223372036854775810", "9223372036854775817", "9300000000000000000", "10000000000000000000", "18446744073709551615", "18446744073709551616", "18446744073709551617", "0009223372036854775808", strings.Repeat("9", 500),
		"0x8000000000000000", "0x8000000000000001", "0xFFFFFFFFFFFFFFFF", "0xffffffffffffffff", "0x10000000000000000", "0x10000000000000001", "0x0008000000000000000", "0x" + strings.Repeat("f", 500),
		"0x", "0x_", "0xg", "0xG", "0x1g", "0x1_0", "0x_1", "0xx1", "0x0x1", "00x1", "1x1", "0X1F", "0X", "0b1", "0o7", "0_1",
		"12a", "12_", "1_000", "1e5", "1a", "0a", "9f", "5z", "5Z", "12rec", "1if", "0null", "7_",
		"'", "''", "'a", "'ab'", "'ab", "'' '", "'a\"", "'\\n'", "' a'",
	}
	for c := 0; c < 256; c++ {
		if c < 32 || c > 126 {
			l = append(l, "'"+string([]byte{byte(c)})+"'")
		}
	}
	return append(l, "'é'")
}

func TestNumber(t *testing.T) { // P4.3
	for s, want := range wholeNumbers() {
		if n, ok := Number(s); n != want || !ok {
			t.Errorf("Number(%q) is %d, %v", s, n, ok)
		}
	}
	wrong := noNumbers()
	for _, s := range []string{"1", "12", "0x1F", "'a'", "9223372036854775807"} {
		for _, x := range []string{" ", "\n", "\t", "+", "-", "//", "_", "g", "@", "'", ".", ",", "\x00", "\x80", "é", "/"} {
			wrong = append(wrong, x+s, s+x)
		}
		wrong = append(wrong, s+" "+s, s+".5", s+"// note", s+"//\n", "x"+s, "("+s+")")
	}
	for _, s := range append(wrong, "", " ", "x", "a", "f", "_1", "null", "x1F", "abc", "-1", "+0x1", "0x-1", "0x+1", "/", ":", "@", "`", "G", "٣", "１") {
		if n, ok := Number(s); n != 0 || ok {
			t.Errorf("Number(%q) is %d, %v", s, n, ok)
		}
	}
}

func TestName(t *testing.T) { // P4.3
	right := []string{"a", "z", "A", "Z", "_", "__", "_1", "x0", "x9", "q_Q", "roots", "Root", "ROOT", "_root", "i", "r", "n", "nul", "retur", "ifelse", "main", "merges", "letx", strings.Repeat("y", 300000)}
	for _, s := range right {
		if !Name(s) {
			t.Errorf("Name(%.20q) is false", s)
		}
		for _, x := range []string{" ", "\n", "\t", "\r", "//", "+", ".", "@", "'", "\x00", "\x80", "é", "(", "-"} {
			if Name(x+s) || Name(s+x) || Name(s+x+s) {
				t.Errorf("Name of %.20q with %q about it", s, x)
			}
		}
		for _, x := range []string{"0", "9", "12"} {
			if Name(x+s) || !Name(s+x) {
				t.Errorf("Name of %.20q with %q about it", s, x)
			}
		}
	}
	for _, s := range append(allWords, "", " ", "0", "1a", "9_", "'a'", "0x1F", "é", "aé", "\xff", "ｘ", "a b", "a.b") {
		if Name(s) {
			t.Errorf("Name(%q) is true", s)
		}
	}
	for c := 0; c < 256; c++ {
		begins := c == '_' || 'a' <= c && c <= 'z' || 'A' <= c && c <= 'Z'
		goesOn := begins || '0' <= c && c <= '9'
		b := string([]byte{byte(c)})
		if Name(b) != begins || Name(b+"q") != begins || Name("q"+b) != goesOn || Name("q"+b+"q") != goesOn {
			t.Errorf("Name with %q", b)
		}
	}
}

func wantLine(t *testing.T, s string, at, line, column int) {
	t.Helper()
	if l, c := Line(s, at); l != line || c != column {
		t.Errorf("Line(%q, %d) is %d, %d; wanted %d, %d", s, at, l, c, line, column)
	}
}

func TestLine(t *testing.T) { // P4.5
	const s = "ab\n\ncd\r\n\té"
	for at, want := range [][2]int{{1, 1}, {1, 2}, {1, 3}, {2, 1}, {3, 1}, {3, 2}, {3, 3}, {3, 4}, {4, 1}, {4, 2}, {4, 3}, {4, 4}} {
		wantLine(t, s, at, want[0], want[1])
	}
	for _, at := range []int{len(s), len(s) + 1, len(s) + 100, 1 << 32, math.MaxInt} {
		wantLine(t, s, at, 4, 4)
	}
	wantLine(t, s+"\n", len(s), 4, 4)
	wantLine(t, s+"\n", len(s)+1, 5, 1)
	wantLine(t, s+"\n", math.MaxInt, 5, 1)
	for _, at := range []int{0, -1, -2, -100, math.MinInt, -1 << 32} {
		wantLine(t, s, at, 1, 1)
		wantLine(t, "\n"+s, at, 1, 1)
		wantLine(t, "", at, 1, 1)
	}
	wantLine(t, "", 1, 1, 1)
	wantLine(t, "", math.MaxInt, 1, 1)
	wantLine(t, "\n", 0, 1, 1)
	wantLine(t, "\n", 1, 2, 1)
	wantLine(t, "\n", 2, 2, 1)
	wantLine(t, "a\rb", 2, 1, 3)
	wantLine(t, "ab\ncd\n", 5, 2, 3)
	wantLine(t, strings.Repeat("x\n", 200000), 400000, 200001, 1)
	wantLine(t, strings.Repeat("x\n", 200000), 399999, 200000, 2)
}

func TestLineStepByStep(t *testing.T) { // P4.5
	line, column := 1, 1
	s := strings.Repeat("\nfn f() {\n\tout 1; // 'x'\r\n}\n\n", 20)
	for at := range len(s) {
		wantLine(t, s, at, line, column)
		column++
		if s[at] == '\n' {
			line, column = line+1, 1
		}
	}
	wantLine(t, s, len(s), line, column)
}
