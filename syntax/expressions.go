package syntax

import "codesearch/api"

// highest is the level of the operators that bind most tightly.
const highest = 6

// level returns the level of an operator between two expressions, from 1 on; 0 if it is none.
func level(operator string) int {
	switch operator {
	case "||":
		return 1
	case "&&":
		return 2
	case "==", "!=":
		return 3
	case "<", ">":
		return 4
	case "+", "-":
		return 5
	case "*", "/", "%":
		return highest
	}
	return 0
}

// prefix reports whether an operator can stand before an expression.
func prefix(operator string) bool { return operator == "!" || operator == "-" }

// constant reports whether a keyword is an expression.
func constant(word string) bool {
	switch word {
	case "true", "false", "null", "this":
		return true
	}
	return false
}

func (p *parser) expression() api.Node { return p.binary(1) }

// binary reads an expression with operators of a level, or of higher ones, outside of parentheses.
func (p *parser) binary(least int) api.Node {
	if least > highest {
		return p.unary()
	}
	at := p.begin()
	n := p.binary(least + 1)
	for level(p.fixed()) == least {
		operator := p.take()
		right := p.binary(least + 1)
		n = p.node(api.NdBinary, operator, at, n, right)
	}
	return n
}

func (p *parser) unary() api.Node {
	if !prefix(p.fixed()) {
		return p.postfix()
	}
	at := p.begin()
	operator := p.take()
	operand := p.unary()
	return p.node(api.NdUnary, operator, at, operand)
}

func (p *parser) postfix() api.Node {
	at := p.begin()
	n := p.primary()
	for {
		switch p.fixed() {
		case ".":
			n = p.member(at, n)
		case "(":
			n = p.call(at, n)
		default:
			return n
		}
	}
}

func (p *parser) member(at int, of api.Node) api.Node {
	p.want(".")
	return p.node(api.NdMember, p.name(), at, of)
}

func (p *parser) call(at int, called api.Node) api.Node {
	arguments := p.inParentheses((*parser).argument)
	return p.node(api.NdCall, "", at, append([]api.Node{called}, arguments.Kids...)...)
}

func (p *parser) argument() api.Node {
	if p.kind() == api.TkMany {
		return p.leaf(api.NdMany)
	}
	return p.expression()
}

func (p *parser) primary() api.Node {
	switch p.kind() {
	case api.TkName:
		return p.leaf(api.NdName)
	case api.TkInt:
		return p.leaf(api.NdInt)
	case api.TkText:
		return p.leaf(api.NdText)
	case api.TkMeta:
		return p.leaf(api.NdMeta)
	}
	switch {
	case constant(p.fixed()):
		return p.leaf(api.NdConst)
	case p.sees("new"):
		return p.creation()
	case p.sees("("):
		return p.group()
	}
	panic(p.unexpected())
}

func (p *parser) creation() api.Node {
	at := p.begin()
	p.want("new")
	class := p.typeName()
	arguments := p.inParentheses((*parser).argument)
	return p.node(api.NdNew, class, at, arguments.Kids...)
}

// group reads an expression in parentheses, which belong to it.
func (p *parser) group() api.Node {
	at := p.begin()
	n := p.test()
	n.At, n.End = at, p.end()
	return n
}
