package tree

import (
	"regexp"
	"slices"
	"strings"

	"swath/api"
)

// part is a node with its kids, ahead of being laid into a list.
type part struct {
	kind int
	text string
	kids []part
}

func of(kind int, text string, kids ...part) part { return part{kind, text, kids} }

// lay puts a part behind a list, kids ahead of those that have them, and answers its number.
func lay(l *[]api.Node, p part) int {
	var kids []int
	for _, k := range p.kids {
		kids = append(kids, lay(l, k))
	}
	*l = append(*l, api.Node{Kind: p.kind, Text: p.text, Kids: kids, At: len(*l)})
	return len(*l) - 1
}

func list(p part) []api.Node {
	var l []api.Node
	lay(&l, p)
	return l
}

func num(text string) part { return of(api.NodeNum, text) }

func name(text string) part { return of(api.NodeName, text) }

func block(kids ...part) part { return of(api.NodeBlock, "", kids...) }

// within is a whole tree with statements as the body of its one function.
func within(kids ...part) part {
	return of(api.NodeProgram, "", of(api.NodeFn, "main", block(kids...)))
}

const kinds = 30

// sample is a part of a kind that is as the table says, with as few kids as may be.
func sample(kind int) part {
	one := num("7")
	switch kind {
	case api.NodeRec:
		return of(kind, "r")
	case api.NodeFn:
		return of(kind, "f", block())
	case api.NodeLet:
		return of(kind, "v", one)
	case api.NodeSet:
		return of(kind, "", name("x"), one)
	case api.NodeIf:
		return of(kind, "", one, block(), of(api.NodeNone, ""))
	case api.NodeWhile:
		return of(kind, "", one, block())
	case api.NodeDo:
		return of(kind, "", of(api.NodeCall, "g"))
	case api.NodeNum:
		return one
	case api.NodeName, api.NodeNew, api.NodeCall:
		return of(kind, "x")
	case api.NodeUnary:
		return of(kind, "-", one)
	case api.NodeBin:
		return of(kind, "+", one, one)
	case api.NodeField:
		return of(kind, "a", one)
	case api.NodeElem:
		return of(kind, "", one, one)
	case api.NodeReturn, api.NodeOut, api.NodeStop, api.NodeArr, api.NodeLen, api.NodeImg, api.NodePromote:
		return of(kind, "", one)
	}
	return of(kind, "")
}

// called has the kinds' names at their numbers.
var called = strings.Fields("- program rec fn block let set if while return out stop do merge none num null name unary bin field elem call new arr len in img size promote root")

// row is a line of the chapter's table: patterns of the Text, and of the kids, each of these its kind's name and a blank.
type row struct {
	text *regexp.Regexp
	kids *regexp.Regexp
}

func pattern(s string) *regexp.Regexp { return regexp.MustCompile(`\A(?:` + s + `)\z`) }

// table is the chapter's table, written as patterns.
var table = func() []row {
	const (
		name = `[a-zA-Z_][a-zA-Z0-9_]*`
		expr = `(num|null|name|unary|bin|field|elem|call|new|arr|len|in|img|size|promote|root) `
		stmt = `(let|set|if|while|return|out|stop|do|merge) `
	)
	l := make([]row, kinds+1)
	for kind, s := range map[int][2]string{
		api.NodeProgram: {``, `((rec|fn) )*`},
		api.NodeRec:     {name, `(name )*`},
		api.NodeFn:      {name, `(name )*block `},
		api.NodeBlock:   {``, `(` + stmt + `)*`},
		api.NodeLet:     {name, expr},
		api.NodeSet:     {``, `(name|field|elem|root) ` + expr},
		api.NodeIf:      {``, expr + `block (block|none) `},
		api.NodeWhile:   {``, expr + `block `},
		api.NodeReturn:  {``, expr},
		api.NodeOut:     {``, expr},
		api.NodeStop:    {``, expr},
		api.NodeDo:      {``, `call `},
		api.NodeMerge:   {``, `(name )*`},
		api.NodeNone:    {``, ``},
		api.NodeNum:     {`0|[1-9][0-9]*`, ``},
		api.NodeNull:    {``, ``},
		api.NodeName:    {name, ``},
		api.NodeUnary:   {`[-!~]`, expr},
		api.NodeBin:     {`[-+*/%&^|<]|<<|>>|==|!=|<=`, expr + expr},
		api.NodeField:   {name, expr},
		api.NodeElem:    {``, expr + expr},
		api.NodeCall:    {name, `(` + expr + `)*`},
		api.NodeNew:     {name, ``},
		api.NodeArr:     {``, expr},
		api.NodeLen:     {``, expr},
		api.NodeIn:      {``, ``},
		api.NodeImg:     {``, expr},
		api.NodeSize:    {``, ``},
		api.NodePromote: {``, expr},
		api.NodeRoot:    {``, ``},
	} {
		l[kind] = row{pattern(s[0]), pattern(s[1])}
	}
	return l
}()

var words = strings.Fields("rec fn let if else while return out stop merge promote new arr len in img size null root")

func rightText(kind int, text string) bool {
	if kind == api.NodeNum && (len(text) > 19 || len(text) == 19 && text > "9223372036854775807") {
		return false
	}
	return table[kind].text.MatchString(text) && !slices.Contains(words, text)
}

func rightKids(l []api.Node, n api.Node) bool {
	s := ""
	for _, k := range n.Kids {
		s += called[l[k].Kind] + " "
	}
	return table[n.Kind].kids.MatchString(s)
}

// checked is what Check is to answer of a short list, as the chapter's sentences say it one behind the other.
func checked(l []api.Node) (int, api.Errno) {
	named := map[int]bool{}
	for i, n := range l {
		if n.Kind < 1 || n.Kind > kinds || n.At < 0 {
			return i, api.ErrTree
		}
		for _, k := range n.Kids {
			if k < 0 || k >= i || named[k] {
				return i, api.ErrTree
			}
			named[k] = true
		}
		if !rightText(n.Kind, n.Text) {
			return i, api.ErrText
		}
		if !rightKids(l, n) {
			return i, api.ErrKids
		}
	}
	if len(l) == 0 {
		return 0, api.ErrTree
	}
	last := len(l) - 1
	for i, n := range l {
		if (n.Kind == api.NodeProgram) != (i == last) || named[i] == (i == last) {
			return last, api.ErrTree
		}
	}
	if deepest(l, last) > api.MaxDeep {
		return 0, api.ErrDeep
	}
	return 0, api.OK
}

// deepest goes down all ways, so it is for short lists alone.
func deepest(l []api.Node, n int) int {
	deep := 0
	for _, k := range l[n].Kids {
		if k >= 0 && k < n {
			deep = max(deep, deepest(l, k))
		}
	}
	return deep + 1
}
