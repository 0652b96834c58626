package show

import "swath/api"

// How tightly expressions bind: by the grammar's lines, the least tightly first.
const (
	compareTight = iota
	orTight
	andTight
	shiftTight
	sumTight
	productTight
	signTight
	backTight
)

func tightness(node api.Node) int {
	switch node.Kind {
	case api.NodeBin:
		return operatorTightness(node.Text)
	case api.NodeUnary:
		return signTight
	}
	return backTight
}

func operatorTightness(operator string) int {
	switch operator {
	case "*", "/", "%":
		return productTight
	case "+", "-":
		return sumTight
	case "<<", ">>":
		return shiftTight
	case "&":
		return andTight
	case "|", "^":
		return orTight
	}
	return compareTight
}

// side writes an expression, in parentheses if its place wants one that binds more tightly.
func (w *writer) side(s side) {
	node := w.nodes[s.node]
	if tightness(node) < s.tight {
		w.put("(", whole(s.node), ")")
		return
	}
	w.expression(node)
}

func (w *writer) expression(node api.Node) {
	kids := node.Kids
	switch node.Kind {
	case api.NodeNum, api.NodeName:
		w.put(node.Text)
	case api.NodeNull, api.NodeRoot:
		w.put(word(node.Kind))
	case api.NodeUnary:
		w.put(node.Text, side{kids[0], signTight})
	case api.NodeBin:
		tight := tightness(node)
		// A comparison has none within it on the left either.
		w.put(side{kids[0], max(tight, orTight)}, " ", node.Text, " ", side{kids[1], tight + 1})
	case api.NodeField:
		w.put(side{kids[0], backTight}, ".", node.Text)
	case api.NodeElem:
		w.put(side{kids[0], backTight}, "[", whole(kids[1]), "]")
	case api.NodeNew:
		w.put("new ", node.Text)
	case api.NodeCall:
		w.put(node.Text, "(", row(kids), ")")
	default:
		w.put(word(node.Kind), "(", row(kids), ")")
	}
}
