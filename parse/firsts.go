package parse

import (
	"strconv"

	"swath/api"
)

// firsts has what reads the first part of an expression by what it begins with.
func firsts() map[string]rule {
	return map[string]rule{
		aNumber:   (*parser).number,
		aName:     (*parser).nameOrCall,
		"null":    (*parser).null,
		"root":    (*parser).root,
		"new":     (*parser).made,
		"arr":     (*parser).array,
		"len":     (*parser).length,
		"in":      (*parser).input,
		"img":     (*parser).image,
		"size":    (*parser).size,
		"promote": (*parser).promote,
		"(":       (*parser).bracketed,
	}
}

func (p *parser) number() int {
	t := p.pass()
	return p.lay(api.NodeNum, strconv.FormatInt(t.N, 10), t.From)
}

func (p *parser) nameOrCall() int {
	t := p.pass()
	if !p.passIf("(") {
		return p.lay(api.NodeName, t.Text, t.From)
	}
	arguments := p.listed((*parser).expression, ")")
	return p.lay(api.NodeCall, t.Text, t.From, arguments...)
}

func (p *parser) made() int {
	p.pass()
	name := p.want(aName)
	return p.lay(api.NodeNew, name.Text, name.From)
}

func (p *parser) null() int { return p.alone(api.NodeNull) }
func (p *parser) root() int { return p.alone(api.NodeRoot) }

// alone reads a word behind which nothing stands.
func (p *parser) alone(kind int) int {
	return p.lay(kind, "", p.pass().From)
}

func (p *parser) input() int { return p.empty(api.NodeIn) }
func (p *parser) size() int  { return p.empty(api.NodeSize) }

// empty reads a word with brackets about nothing.
func (p *parser) empty(kind int) int {
	from := p.pass().From
	p.want("(")
	p.want(")")
	return p.lay(kind, "", from)
}

func (p *parser) array() int   { return p.about(api.NodeArr) }
func (p *parser) length() int  { return p.about(api.NodeLen) }
func (p *parser) image() int   { return p.about(api.NodeImg) }
func (p *parser) promote() int { return p.about(api.NodePromote) }

// about reads a word with brackets about an expression.
func (p *parser) about(kind int) int {
	from := p.pass().From
	n := p.bracketed()
	return p.lay(kind, "", from, n)
}

// bracketed reads an expression in brackets, which leave no node.
func (p *parser) bracketed() int {
	p.want("(")
	n := p.expression()
	p.want(")")
	return n
}
