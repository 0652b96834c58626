package show

import (
	"strings"

	"swath/api"
)

// movedIn is what stands ahead of a line for each block about it.
const movedIn = "    "

// line writes parts as a line of their own.
func (w *writer) line(parts ...any) {
	w.moveIn()
	w.put(parts...)
	w.put("\n")
}

func (w *writer) moveIn() {
	w.put(strings.Repeat(movedIn, w.about))
}

func (w *writer) declarations(kids []int) {
	for _, k := range kids {
		w.declaration(w.nodes[k])
	}
}

func (w *writer) declaration(node api.Node) {
	if node.Kind == api.NodeRec {
		w.line("rec ", node.Text, " {", row(node.Kids), "}")
		return
	}
	last := len(node.Kids) - 1
	w.line("fn ", node.Text, "(", row(node.Kids[:last]), ") {", body(node.Kids[last]), "}")
}

func (w *writer) body(kids []int) {
	w.put("\n")
	w.about++
	for _, k := range kids {
		w.statement(w.nodes[k])
	}
	w.about--
	w.moveIn()
}

func (w *writer) statement(node api.Node) {
	kids := node.Kids
	switch node.Kind {
	case api.NodeLet:
		w.line("let ", node.Text, " = ", whole(kids[0]), ";")
	case api.NodeSet:
		w.line(whole(kids[0]), " = ", whole(kids[1]), ";")
	case api.NodeIf:
		w.line("if ", whole(kids[0]), " {", body(kids[1]), otherwise(kids[2]), "}")
	case api.NodeWhile:
		w.line("while ", whole(kids[0]), " {", body(kids[1]), "}")
	case api.NodeDo:
		w.line(whole(kids[0]), ";")
	case api.NodeMerge:
		w.line("merge(", row(kids), ");")
	default:
		w.line(word(node.Kind), " ", whole(kids[0]), ";")
	}
}

func (w *writer) otherwise(n int) {
	if w.nodes[n].Kind != api.NodeNone {
		w.put("} else {", body(n))
	}
}

// word is the one by which statements of one expression, and expressions without a name, are told.
func word(kind int) string {
	switch kind {
	case api.NodeReturn:
		return "return"
	case api.NodeOut:
		return "out"
	case api.NodeStop:
		return "stop"
	case api.NodeNull:
		return "null"
	case api.NodeRoot:
		return "root"
	case api.NodeArr:
		return "arr"
	case api.NodeLen:
		return "len"
	case api.NodeIn:
		return "in"
	case api.NodeImg:
		return "img"
	case api.NodeSize:
		return "size"
	case api.NodePromote:
		return "promote"
	}
	return ""
}
