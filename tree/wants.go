package tree

import (
	"unicode"

	"swath/api"
	"swath/lex"
)

// What Text a kind may want.
const (
	noText = iota
	nameText
	numberText
	unaryText
	binText
)

// want is what a kind of nodes wants: which Text, and kids by letters: b a block, c a call, d a declaration, e an expression,
// n a name, o a block or none, p a place, s a statement; a great letter stands for any number of them.
type want struct {
	text int
	kids string
}

func wants() map[int]want {
	return map[int]want{
		api.NodeProgram: {noText, "D"},
		api.NodeRec:     {nameText, "N"},
		api.NodeFn:      {nameText, "Nb"},
		api.NodeBlock:   {noText, "S"},
		api.NodeLet:     {nameText, "e"},
		api.NodeSet:     {noText, "pe"},
		api.NodeIf:      {noText, "ebo"},
		api.NodeWhile:   {noText, "eb"},
		api.NodeReturn:  {noText, "e"},
		api.NodeOut:     {noText, "e"},
		api.NodeStop:    {noText, "e"},
		api.NodeDo:      {noText, "c"},
		api.NodeMerge:   {noText, "N"},
		api.NodeNone:    {noText, ""},
		api.NodeNum:     {numberText, ""},
		api.NodeNull:    {noText, ""},
		api.NodeName:    {nameText, ""},
		api.NodeUnary:   {unaryText, "e"},
		api.NodeBin:     {binText, "ee"},
		api.NodeField:   {nameText, "e"},
		api.NodeElem:    {noText, "ee"},
		api.NodeCall:    {nameText, "E"},
		api.NodeNew:     {nameText, ""},
		api.NodeArr:     {noText, "e"},
		api.NodeLen:     {noText, "e"},
		api.NodeIn:      {noText, ""},
		api.NodeImg:     {noText, "e"},
		api.NodeSize:    {noText, ""},
		api.NodePromote: {noText, "e"},
		api.NodeRoot:    {noText, ""},
	}
}

// kidsFit tells whether kids, all of them nodes of l, are those that the letters want.
func kidsFit(letters string, l []api.Node, kids []int) bool {
	at := 0
	for _, letter := range letters {
		one := unicode.ToLower(letter)
		n := countFitting(one, l, kids[at:])
		if letter == one {
			if n == 0 {
				return false
			}
			n = 1
		}
		at += n
	}
	return at == len(kids)
}

// countFitting is how many of the kids fit a letter, up to the first one that doesn't.
func countFitting(letter rune, l []api.Node, kids []int) int {
	for i, k := range kids {
		if !kindFits(letter, l[k].Kind) {
			return i
		}
	}
	return len(kids)
}

func kindFits(letter rune, kind int) bool {
	switch letter {
	case 'b':
		return kind == api.NodeBlock
	case 'c':
		return kind == api.NodeCall
	case 'd':
		return kind == api.NodeRec || kind == api.NodeFn
	case 'e':
		return api.NodeNum <= kind && kind <= api.NodeRoot
	case 'n':
		return kind == api.NodeName
	case 'o':
		return kind == api.NodeBlock || kind == api.NodeNone
	case 'p':
		return kind == api.NodeName || kind == api.NodeField || kind == api.NodeElem || kind == api.NodeRoot
	case 's':
		return api.NodeLet <= kind && kind <= api.NodeMerge
	}
	return false
}

func textFits(wanted int, text string) bool {
	switch wanted {
	case nameText:
		return lex.Name(text)
	case numberText:
		return isDecimal(text)
	case unaryText:
		return isUnary(text)
	case binText:
		return isBin(text)
	}
	return text == ""
}

// isDecimal tells whether text is a number as trees write it: hexadecimal ones begin with a nought, others with a quote.
func isDecimal(text string) bool {
	_, ok := lex.Number(text)
	return ok && (text == "0" || '1' <= text[0] && text[0] <= '9')
}

func isUnary(text string) bool {
	switch text {
	case "-", "!", "~":
		return true
	}
	return false
}

func isBin(text string) bool {
	switch text {
	case "+", "-", "*", "/", "%", "<<", ">>", "&", "^", "|", "==", "!=", "<", "<=":
		return true
	}
	return false
}
