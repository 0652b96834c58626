package parse

import (
	"slices"

	"swath/api"
)

// The grammar's lines of operators, those that bind the least tightly first.
const (
	noLine = iota
	compareLine
	orLine
	andLine
	shiftLine
	sumLine
	productLine
	signLine
)

// lineOf is the line on which an operator between two sides stands.
func lineOf(sign string) int {
	switch sign {
	case "==", "!=", "<", "<=":
		return compareLine
	case "|", "^":
		return orLine
	case "&":
		return andLine
	case "<<", ">>":
		return shiftLine
	case "+", "-":
		return sumLine
	case "*", "/", "%":
		return productLine
	}
	return noLine
}

// expression reads a whole one: of comparisons it takes one alone, of all other operators any number.
func (p *parser) expression() int {
	n := p.chain(orLine)
	if lineOf(p.next()) == compareLine {
		n = p.joined(n, orLine)
	}
	return n
}

// chain reads sides with operators of a line between, bound from the left.
func (p *parser) chain(line int) int {
	if line == signLine {
		return p.signed()
	}
	n := p.chain(line + 1)
	for lineOf(p.next()) == line {
		n = p.joined(n, line+1)
	}
	return n
}

// joined reads an operator and the side on its right, which is of that line.
func (p *parser) joined(left, line int) int {
	operator := p.pass()
	right := p.chain(line)
	return p.lay(api.NodeBin, operator.Text, operator.From, left, right)
}

// signed reads signs and what stands behind them. It doesn't call itself, since nothing bounds how many signs there are.
func (p *parser) signed() int {
	var signs []api.Token
	for isSign(p.next()) {
		signs = append(signs, p.pass())
	}
	n := p.back()
	for _, t := range slices.Backward(signs) {
		n = p.lay(api.NodeUnary, t.Text, t.From, n)
	}
	return n
}

func isSign(what string) bool {
	switch what {
	case "-", "!", "~":
		return true
	}
	return false
}

// back reads a first part with the fields and elements behind it.
func (p *parser) back() int {
	n := p.begun(p.firsts)
	for {
		switch p.next() {
		case ".":
			n = p.field(n)
		case "[":
			n = p.element(n)
		default:
			return n
		}
	}
}

func (p *parser) field(of int) int {
	from := p.pass().From
	name := p.want(aName)
	return p.lay(api.NodeField, name.Text, from, of)
}

func (p *parser) element(of int) int {
	from := p.pass().From
	index := p.expression()
	p.want("]")
	return p.lay(api.NodeElem, "", from, of, index)
}
