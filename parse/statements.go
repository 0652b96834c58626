package parse

import "swath/api"

// declarations has what reads each declaration by what it begins with.
func declarations() map[string]rule {
	return map[string]rule{
		"rec": (*parser).record,
		"fn":  (*parser).function,
	}
}

// statements has what reads each statement that begins with a word of its own.
func statements() map[string]rule {
	return map[string]rule{
		"let":    (*parser).let,
		"if":     (*parser).choice,
		"while":  (*parser).while,
		"return": (*parser).giveBack,
		"out":    (*parser).output,
		"stop":   (*parser).stop,
		"merge":  (*parser).merge,
	}
}

func (p *parser) program() int {
	var kids []int
	for p.next() != theEnd {
		kids = append(kids, p.begun(p.declarations))
	}
	return p.lay(api.NodeProgram, "", 0, kids...)
}

func (p *parser) record() int {
	p.pass()
	name := p.want(aName)
	p.want("{")
	fields := p.listed((*parser).name, "}")
	return p.lay(api.NodeRec, name.Text, name.From, fields...)
}

func (p *parser) function() int {
	p.pass()
	name := p.want(aName)
	p.want("(")
	kids := p.listed((*parser).name, ")")
	kids = append(kids, p.block())
	return p.lay(api.NodeFn, name.Text, name.From, kids...)
}

func (p *parser) name() int {
	t := p.want(aName)
	return p.lay(api.NodeName, t.Text, t.From)
}

func (p *parser) block() int {
	from := p.want("{").From
	var kids []int
	for !p.passIf("}") {
		kids = append(kids, p.statement())
	}
	return p.lay(api.NodeBlock, "", from, kids...)
}

func (p *parser) statement() int {
	if read, is := p.statements[p.next()]; is {
		return read(p)
	}
	return p.setOrDo()
}

func (p *parser) let() int {
	p.pass()
	name := p.want(aName)
	p.want("=")
	value := p.expression()
	p.want(";")
	return p.lay(api.NodeLet, name.Text, name.From, value)
}

func (p *parser) choice() int {
	from := p.pass().From
	test := p.expression()
	then := p.block()
	otherwise := p.otherwise()
	return p.lay(api.NodeIf, "", from, test, then, otherwise)
}

func (p *parser) otherwise() int {
	if p.passIf("else") {
		return p.block()
	}
	return p.lay(api.NodeNone, "", 0)
}

func (p *parser) while() int {
	from := p.pass().From
	test := p.expression()
	body := p.block()
	return p.lay(api.NodeWhile, "", from, test, body)
}

func (p *parser) giveBack() int { return p.worded(api.NodeReturn) }
func (p *parser) output() int   { return p.worded(api.NodeOut) }
func (p *parser) stop() int     { return p.worded(api.NodeStop) }

// worded reads a statement of a word and an expression.
func (p *parser) worded(kind int) int {
	from := p.pass().From
	value := p.expression()
	p.want(";")
	return p.lay(kind, "", from, value)
}

func (p *parser) merge() int {
	from := p.pass().From
	p.want("(")
	greens := p.listed((*parser).name, ")")
	p.want(";")
	return p.lay(api.NodeMerge, "", from, greens...)
}

// setOrDo reads a statement that begins as an expression does: which one it is shows behind that alone.
func (p *parser) setOrDo() int {
	side := p.back()
	kind := p.nodes[side].Kind
	if isPlace(kind) && p.next() == "=" {
		return p.set(side)
	}
	if kind != api.NodeCall {
		p.refuse()
	}
	p.want(";")
	return p.lay(api.NodeDo, "", p.nodes[side].At, side)
}

func (p *parser) set(place int) int {
	from := p.pass().From
	value := p.expression()
	p.want(";")
	return p.lay(api.NodeSet, "", from, place, value)
}

func isPlace(kind int) bool {
	switch kind {
	case api.NodeName, api.NodeField, api.NodeElem, api.NodeRoot:
		return true
	}
	return false
}
