package check

import (
	"math/rand"
	"slices"
	"strings"
	"testing"

	"swath/api"
	"swath/parse"
)

const sample = `rec P {x, y}
fn f(a, b) {
    let c = a;
    if b {
        let d = c;
        while d {
            merge(d, a);
            let e = d;
            d = d - 1;
            while e {
                merge();
                e = promote(e - 1);
            }
        }
        let g = d;
    } else {
        let d = new P;
        d.x = 1;
    }
    let d = 2;
    return c.z + d;
}
rec Q {}
fn main() {
    let n = in();
    while n {
        merge(n);
        n = promote(promote(f(n, promote(1))));
    }
    return n;
}
rec R {z}
fn g(a) {
}
`

// nodeAt is the number of the node of a kind at a place that stands behind a text.
func nodeAt(t *testing.T, l []api.Node, s, text string, kind int) int {
	t.Helper()
	at := strings.Index(s, text) + len(text)
	n := slices.IndexFunc(l, func(n api.Node) bool { return n.Kind == kind && n.At == at })
	if n < 0 {
		t.Fatal("there is no node", kind, "behind", text)
	}
	return n
}

func sampleDesc(t *testing.T, l []api.Node) api.Desc {
	t.Helper()
	return api.Desc{
		Sorts: []api.Sort{{Name: "P", Fields: []string{"x", "y"}}, {Name: "Q"}, {Name: "R", Fields: []string{"z"}}},
		Fns: []api.Fn{
			{Name: "f", Params: 2, Vars: []string{"a", "b", "c", "d", "e", "g", "d", "d"}, Node: nodeAt(t, l, sample, "fn ", api.NodeFn)},
			{Name: "main", Params: 0, Vars: []string{"n"}, Node: nodeAt(t, l, sample, "Q {}\nfn ", api.NodeFn)},
			{Name: "g", Params: 1, Vars: []string{"a"}, Node: nodeAt(t, l, sample, "R {z}\nfn ", api.NodeFn)},
		},
		Main: 1,
		Merges: []int{
			nodeAt(t, l, sample, "while d {\n            ", api.NodeMerge),
			nodeAt(t, l, sample, "while e {\n                ", api.NodeMerge),
			nodeAt(t, l, sample, "while n {\n        ", api.NodeMerge),
		},
	}
}

func TestWholeDescription(t *testing.T) { // P8.1, P8.2
	d := wantTaken(t, sample)
	l := read(t, sample)
	if want := sampleDesc(t, l); !sameDescs(d, want) {
		t.Errorf("%v; wanted %v", d, want)
	}
	// Numbers of nodes are those of the list, the order is Walk's, whatever the numbers.
	chance := rand.New(rand.NewSource(81))
	apart := 0
	for range 200 {
		other := scattered(chance, l)
		d, at, e := Program(other)
		if want := sampleDesc(t, other); at != 0 || e != api.OK || !sameDescs(d, want) {
			t.Fatalf("%v, %d, %d; wanted %v", d, at, e, want)
		}
		if !slices.IsSorted(d.Merges) {
			apart++
		}
	}
	if apart == 0 {
		t.Error("merges stood by their numbers each time")
	}
	least := wantTaken(t, "fn main() {}")
	if want := (api.Desc{Fns: []api.Fn{{Name: "main", Node: 1}}}); !sameDescs(least, want) {
		t.Error(least)
	}
}

// TestOrderOfKids numbers records, functions and lets as they are named by those that have them, not as they are numbered as nodes.
func TestOrderOfKids(t *testing.T) { // P8.1
	l := []api.Node{
		{Kind: api.NodeNum, Text: "1"}, {Kind: api.NodeLet, Text: "v", Kids: []int{0}},
		{Kind: api.NodeNum, Text: "1"}, {Kind: api.NodeLet, Text: "u", Kids: []int{2}},
		{Kind: api.NodeBlock, Kids: []int{3, 1}}, {Kind: api.NodeFn, Text: "main", Kids: []int{4}},
		{Kind: api.NodeName, Text: "a"}, {Kind: api.NodeName, Text: "b"}, {Kind: api.NodeRec, Text: "P", Kids: []int{7, 6}},
		{Kind: api.NodeRec, Text: "Q"},
		{Kind: api.NodeName, Text: "q"}, {Kind: api.NodeName, Text: "p"}, {Kind: api.NodeBlock}, {Kind: api.NodeFn, Text: "f", Kids: []int{11, 10, 12}},
		{Kind: api.NodeProgram, Kids: []int{13, 9, 8, 5}},
	}
	want := api.Desc{
		Sorts: []api.Sort{{Name: "Q"}, {Name: "P", Fields: []string{"b", "a"}}},
		Fns:   []api.Fn{{Name: "f", Params: 2, Vars: []string{"p", "q"}, Node: 13}, {Name: "main", Vars: []string{"u", "v"}, Node: 5}},
		Main:  1,
	}
	if d, at, e := Program(l); at != 0 || e != api.OK || !sameDescs(d, want) {
		t.Error(d, at, e)
	}
	// What is looked at first goes by that order, too.
	l[1].Text, l[1].At, l[3].At = "u", 5, 9
	wantList(t, l, 5, api.ErrScope)
	l[6].Text, l[6].At, l[7].At = "b", 6, 8
	wantList(t, l, 6, api.ErrScope)
	l[9].Text, l[9].At, l[8].At = "P", 3, 4
	wantList(t, l, 4, api.ErrScope)
}

func TestSource(t *testing.T) { // P8.2
	for _, s := range []string{
		"fn main() { return 1 }", "fn main() {", "}", "rec", "fn main() { 1; }", "fn main() { return 12a; }", "fn main() { # }", "fn main() { return 'a; }", "\x00", "fn main() { return 9223372036854775808; }",
		// What is no description isn't looked at any further.
		"fn f() { merge(); return v; } fn f() {} rec P {} rec P {} )",
		strings.Repeat(" ", api.MaxSource+1), "fn main() { return " + strings.Repeat("(", 150) + "1" + strings.Repeat(")", 150) + "; }",
		"fn main() { return " + strings.Repeat("-", 200) + "v; }", "fn main() { " + strings.Repeat("h();", 30000) + " }",
	} {
		_, at, e := parse.Program(s)
		if e == api.OK {
			t.Fatalf("it is taken: %.200s", s)
		}
		if l, d, gotAt, got := Source(s); len(l) > 0 || !noDesc(d) || gotAt != at || got != e {
			t.Errorf("%.200v, %.200v, %d, %d; wanted %d, %d of %.200s", l, d, gotAt, got, at, e, s)
		}
	}
	wantPlace(t, "fn main() { return v; }", 19, api.ErrScope)
	wantPlace(t, "fn main() { main(1); }", 12, api.ErrArity)
	wantPlace(t, "// a note\nfn main() { merge(); }", 22, api.ErrHint)
	wantPlace(t, "rec main {}", 0, api.ErrMain)
	wantPlace(t, "fn main() {} "+strings.Repeat("rec P {} ", api.MaxRecs+1), 0, api.ErrLong)
	l, d, at, e := Source(sample)
	if at != 0 || e != api.OK || !sameNodes(l, read(t, sample)) || !sameDescs(d, sampleDesc(t, l)) {
		t.Error(d, at, e)
	}
}

func TestField(t *testing.T) { // P8.4
	d := wantTaken(t, "rec P {x, y, P} rec Q {} rec R {z, main, w} fn main() {} fn v(v) {}")
	wantField := func(d api.Desc, name string, record, at int, is bool) {
		t.Helper()
		if gotRecord, gotAt, got := Field(d, name); gotRecord != record || gotAt != at || got != is {
			t.Errorf("%d, %d, %t of %q", gotRecord, gotAt, got, name)
		}
	}
	wantField(d, "x", 0, 0, true)
	wantField(d, "y", 0, 1, true)
	wantField(d, "P", 0, 2, true)
	wantField(d, "z", 2, 0, true)
	wantField(d, "main", 2, 1, true)
	wantField(d, "w", 2, 2, true)
	for _, name := range []string{"", "Q", "R", "v", "X", "xy", "x ", "a", "let", "\xff"} {
		wantField(d, name, 0, 0, false)
	}
	wantField(api.Desc{}, "x", 0, 0, false)
	wantField(api.Desc{}, "", 0, 0, false)
	// Descriptions that nobody made: the first one is taken.
	odd := api.Desc{Sorts: []api.Sort{{}, {Fields: []string{"x", "a", "a"}}, {Name: "x", Fields: []string{"a", "", "b"}}, {Fields: []string{"b"}}}, Main: -7, Merges: []int{-1}}
	wantField(odd, "a", 1, 1, true)
	wantField(odd, "b", 2, 2, true)
	wantField(odd, "", 2, 1, true)
	wantField(odd, "c", 0, 0, false)
	// What lies behind a list's length isn't read.
	odd.Sorts[3].Fields = append(odd.Sorts[3].Fields, "c")[:1]
	odd.Sorts = append(odd.Sorts, api.Sort{Fields: []string{"d"}})[:4]
	wantField(odd, "c", 0, 0, false)
	wantField(odd, "d", 0, 0, false)
}

func TestEveryFieldIsFound(t *testing.T) { // P8.4
	var s strings.Builder
	for r := range 20 {
		s.WriteString("rec " + numbered("P#", r, 1, "") + " {" + numbered("a#", 100*r, r, ", ") + "}\n")
	}
	d := wantTaken(t, s.String()+"fn main() {}")
	for r, sort := range d.Sorts {
		for at, name := range sort.Fields {
			if gotRecord, gotAt, is := Field(d, name); gotRecord != r || gotAt != at || !is {
				t.Error(name, gotRecord, gotAt, is)
			}
		}
	}
}
