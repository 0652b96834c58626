package parse

import (
	"math/rand"
	"reflect"
	"strconv"
	"strings"
	"testing"

	"swath/api"
)

// part is a node with its kids, ahead of being written.
type part struct {
	kind int
	text string
	kids []part
}

func of(kind int, text string, kids ...part) part { return part{kind, text, kids} }

// maker makes parts by chance, with ever fewer kids the deeper they stand.
type maker struct {
	*rand.Rand
}

func (m maker) name() string {
	return []string{"x", "y", "main", "_", "a1", "Let", "roots", "i", "f"}[m.Intn(9)]
}

func (m maker) names() []part {
	var l []part
	for range m.Intn(4) {
		l = append(l, of(api.NodeName, m.name()))
	}
	return l
}

func (m maker) number() part {
	n := []int64{0, 1, 9, 31, 32, 39, 40, 97, 126, 127, 4096, 1<<63 - 1, m.Int63()}[m.Intn(13)]
	return of(api.NodeNum, strconv.FormatInt(n, 10))
}

func (m maker) expressions(deep, most int) []part {
	var l []part
	for range m.Intn(most + 1) {
		l = append(l, m.expression(deep))
	}
	return l
}

func (m maker) expression(deep int) part {
	if deep <= 0 {
		return []part{m.number(), of(api.NodeNull, ""), of(api.NodeName, m.name()), of(api.NodeNew, m.name()), of(api.NodeIn, ""), of(api.NodeSize, ""), of(api.NodeRoot, "")}[m.Intn(7)]
	}
	deep -= 1 + m.Intn(2)
	switch m.Intn(9) {
	case 0, 1, 2:
		all := everyOperator()
		return of(api.NodeBin, all[m.Intn(len(all))], m.expression(deep), m.expression(deep))
	case 3:
		return of(api.NodeUnary, []string{"-", "!", "~"}[m.Intn(3)], m.expression(deep))
	case 4:
		return m.place(deep)
	case 5:
		return m.call(deep)
	case 6:
		return of([]int{api.NodeArr, api.NodeLen, api.NodeImg, api.NodePromote}[m.Intn(4)], "", m.expression(deep))
	}
	return m.expression(0)
}

func (m maker) place(deep int) part {
	switch m.Intn(4) {
	case 0:
		return of(api.NodeName, m.name())
	case 1:
		return of(api.NodeField, m.name(), m.expression(deep))
	case 2:
		return of(api.NodeElem, "", m.expression(deep), m.expression(deep))
	}
	return of(api.NodeRoot, "")
}

func (m maker) call(deep int) part {
	return of(api.NodeCall, m.name(), m.expressions(deep, 3)...)
}

func (m maker) statement(deep int) part {
	e := m.Intn(5)
	kind := []int{api.NodeLet, api.NodeSet, api.NodeReturn, api.NodeOut, api.NodeStop, api.NodeDo, api.NodeMerge, api.NodeIf, api.NodeWhile}[m.Intn(9)]
	switch kind {
	case api.NodeLet:
		return of(kind, m.name(), m.expression(e))
	case api.NodeSet:
		return of(kind, "", m.place(e), m.expression(e))
	case api.NodeDo:
		return of(kind, "", m.call(e))
	case api.NodeMerge:
		return of(kind, "", m.names()...)
	case api.NodeIf:
		if m.Intn(2) == 0 {
			return of(kind, "", m.expression(e), m.block(deep-1), of(api.NodeNone, ""))
		}
		return of(kind, "", m.expression(e), m.block(deep-1), m.block(deep-1))
	case api.NodeWhile:
		return of(kind, "", m.expression(e), m.block(deep-1))
	}
	return of(kind, "", m.expression(e))
}

func (m maker) block(deep int) part {
	var l []part
	if deep > 0 {
		for range m.Intn(4) {
			l = append(l, m.statement(deep))
		}
	}
	return of(api.NodeBlock, "", l...)
}

func (m maker) program() part {
	var l []part
	for range m.Intn(4) {
		if m.Intn(3) == 0 {
			l = append(l, of(api.NodeRec, m.name(), m.names()...))
		} else {
			l = append(l, of(api.NodeFn, m.name(), append(m.names(), m.block(3))...))
		}
	}
	return of(api.NodeProgram, "", l...)
}

// writer writes parts as a description, with brackets, blanks and notes by chance, and lays the nodes that it is to be read as.
type writer struct {
	*rand.Rand
	text  string
	last  string
	nodes []api.Node
}

// put writes a token and answers its place.
func (w *writer) put(token string) int {
	const apart = "(){}[],;."
	if !(w.Intn(2) == 0 && (strings.Contains(apart, w.last) || strings.Contains(apart, token))) {
		for range 1 + w.Intn(2) {
			w.text += []string{" ", "  ", "\n", "\t", "\r\n", " // ) } ] 1 let\n", " //\n"}[w.Intn(7)]
		}
	}
	w.text, w.last = w.text+token, token
	return len(w.text) - len(token)
}

func (w *writer) lay(p part, at int, kids ...int) int {
	w.nodes = append(w.nodes, api.Node{Kind: p.kind, Text: p.text, Kids: kids, At: at})
	return len(w.nodes) - 1
}

// listed writes kids with commas between them, in brackets.
func (w *writer) listed(open string, kids []part, closing string, write func(part) int) []int {
	var l []int
	w.put(open)
	for i, k := range kids {
		if i > 0 {
			w.put(",")
		}
		l = append(l, write(k))
	}
	w.put(closing)
	return l
}

func (w *writer) name(p part) int { return w.lay(p, w.put(p.text)) }

func (w *writer) number(p part) int {
	n, _ := strconv.ParseInt(p.text, 10, 64)
	hex := strconv.FormatInt(n, 16)
	forms := []string{p.text, p.text, "00" + p.text, "0x" + hex, "0x0" + strings.ToUpper(hex)}
	if 32 <= n && n <= 126 {
		forms = append(forms, "'"+string(rune(n))+"'")
	}
	return w.lay(p, w.put(forms[w.Intn(len(forms))]))
}

const (
	signTight = 10
	backTight = 11
)

// tightness is how tightly a part binds: an operator by its line, a sign more, all else the most.
func tightness(p part) int {
	switch p.kind {
	case api.NodeBin:
		return lineIs(p.text)
	case api.NodeUnary:
		return signTight
	}
	return backTight
}

// whole writes an expression where any may stand.
func (w *writer) whole(p part) int { return w.expression(p, 0) }

// expression writes one where none that binds less tightly may stand.
func (w *writer) expression(p part, tight int) int {
	if tightness(p) < tight || w.Intn(8) == 0 {
		w.put("(")
		n := w.whole(p)
		w.put(")")
		return n
	}
	switch p.kind {
	case api.NodeNum:
		return w.number(p)
	case api.NodeName:
		return w.name(p)
	case api.NodeUnary:
		at := w.put(p.text)
		return w.lay(p, at, w.expression(p.kids[0], signTight))
	case api.NodeBin:
		line := tightness(p)
		left := w.expression(p.kids[0], max(line, 1))
		at := w.put(p.text)
		return w.lay(p, at, left, w.expression(p.kids[1], line+1))
	case api.NodeField:
		side := w.expression(p.kids[0], backTight)
		at := w.put(".")
		w.put(p.text)
		return w.lay(p, at, side)
	case api.NodeElem:
		side := w.expression(p.kids[0], backTight)
		at := w.put("[")
		index := w.whole(p.kids[1])
		w.put("]")
		return w.lay(p, at, side, index)
	case api.NodeCall:
		at := w.put(p.text)
		return w.lay(p, at, w.listed("(", p.kids, ")", w.whole)...)
	case api.NodeNew:
		w.put("new")
		return w.name(p)
	}
	at := w.put(called[p.kind])
	if p.kind == api.NodeNull || p.kind == api.NodeRoot {
		return w.lay(p, at)
	}
	return w.lay(p, at, w.listed("(", p.kids, ")", w.whole)...)
}

func (w *writer) block(p part) int {
	at := w.put("{")
	var l []int
	for _, k := range p.kids {
		l = append(l, w.statement(k))
	}
	w.put("}")
	return w.lay(p, at, l...)
}

func (w *writer) statement(p part) int {
	switch p.kind {
	case api.NodeLet:
		w.put("let")
		at := w.put(p.text)
		w.put("=")
		return w.closed(p, at, w.whole(p.kids[0]))
	case api.NodeSet:
		place := w.expression(p.kids[0], backTight)
		at := w.put("=")
		return w.closed(p, at, place, w.whole(p.kids[1]))
	case api.NodeDo:
		call := w.expression(p.kids[0], backTight)
		return w.closed(p, w.nodes[call].At, call)
	}
	at := w.put(called[p.kind])
	if p.kind == api.NodeMerge {
		return w.closed(p, at, w.listed("(", p.kids, ")", w.name)...)
	}
	kids := []int{w.whole(p.kids[0])}
	if len(p.kids) == 1 {
		return w.closed(p, at, kids...)
	}
	kids = append(kids, w.block(p.kids[1]))
	if p.kind == api.NodeIf {
		kids = append(kids, w.otherwise(p.kids[2]))
	}
	return w.lay(p, at, kids...)
}

func (w *writer) closed(p part, at int, kids ...int) int {
	w.put(";")
	return w.lay(p, at, kids...)
}

func (w *writer) otherwise(p part) int {
	if p.kind == api.NodeNone {
		return w.lay(p, 0)
	}
	w.put("else")
	return w.block(p)
}

func (w *writer) program(p part) {
	var l []int
	for _, k := range p.kids {
		w.put(called[k.kind])
		at := w.put(k.text)
		if k.kind == api.NodeRec {
			l = append(l, w.lay(k, at, w.listed("{", k.kids, "}", w.name)...))
			continue
		}
		last := len(k.kids) - 1
		kids := w.listed("(", k.kids[:last], ")", w.name)
		l = append(l, w.lay(k, at, append(kids, w.block(k.kids[last]))...))
	}
	w.lay(p, 0, l...)
}

// chanceText is a description by chance, with the nodes that it is.
func chanceText(chance *rand.Rand) *writer {
	w := &writer{Rand: chance, last: ";"}
	w.program(maker{chance}.program())
	return w
}

func TestWrittenByChance(t *testing.T) { // P6.1, P6.2
	chance := rand.New(rand.NewSource(61))
	times := make([]int, len(called))
	for range 5000 {
		w := chanceText(chance)
		l := taken(t, w.text)
		for i := range max(len(l), len(w.nodes)) {
			if i >= len(l) || i >= len(w.nodes) || !alike(l[i], w.nodes[i]) {
				t.Fatalf("%s\nhas node %d as %v; wanted %v", w.text, i, l[i:min(i+1, len(l))], w.nodes[i:min(i+1, len(w.nodes))])
			}
			times[l[i].Kind]++
		}
	}
	for kind := api.NodeProgram; kind <= api.NodeRoot; kind++ {
		if times[kind] < 200 {
			t.Error(called[kind], "came", times[kind], "times")
		}
	}
}

func alike(a, b api.Node) bool {
	return a.Kind == b.Kind && a.Text == b.Text && a.At == b.At && len(a.Kids) == len(b.Kids) && (len(a.Kids) == 0 || reflect.DeepEqual(a.Kids, b.Kids))
}
