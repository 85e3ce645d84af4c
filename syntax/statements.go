package syntax

import "codesearch/api"

func (p *parser) block() api.Node {
	at := p.begin()
	inside := p.inBraces((*parser).statement)
	return p.node(api.NdBlock, "", at, inside.Kids...)
}

func (p *parser) statement() api.Node {
	switch p.fixed() {
	case "var":
		return p.variable()
	case "{":
		return p.block()
	case "return":
		return p.returning()
	case "if":
		return p.condition()
	case "while":
		return p.loop()
	}
	if p.kind() == api.TkMany || p.kind() == api.TkMeta && p.fixedAt(p.next+1) == ";" {
		return p.placeholder()
	}
	return p.simple()
}

func (p *parser) returning() api.Node {
	at := p.begin()
	p.want("return")
	var kids []api.Node
	if !p.sees(";") {
		kids = append(kids, p.expression())
	}
	p.want(";")
	return p.node(api.NdReturn, "", at, kids...)
}

func (p *parser) condition() api.Node {
	at := p.begin()
	p.want("if")
	test := p.test()
	block := p.block()
	otherwise := p.optional("else", (*parser).block)
	return p.node(api.NdIf, "", at, test, block, otherwise)
}

func (p *parser) loop() api.Node {
	at := p.begin()
	p.want("while")
	test := p.test()
	block := p.block()
	return p.node(api.NdWhile, "", at, test, block)
}

// test reads an expression in parentheses that belong to the statement and not to the expression.
func (p *parser) test() api.Node {
	p.want("(")
	n := p.expression()
	p.want(")")
	return n
}

// simple reads an assignment, or an expression as a statement.
func (p *parser) simple() api.Node {
	at := p.begin()
	kind, kids := api.NdDo, []api.Node{p.expression()}
	if p.skip("=") {
		kind, kids = api.NdAssign, append(kids, p.expression())
	}
	p.want(";")
	return p.node(kind, "", at, kids...)
}
