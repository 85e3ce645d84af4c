package syntax

import "codesearch/api"

func (p *parser) module() api.Node {
	var kids []api.Node
	for p.sees("import") {
		kids = append(kids, p.importation())
	}
	for !p.ended() {
		kids = append(kids, p.declaration())
	}
	return api.Node{Kind: api.NdModule, End: p.length, Kids: kids}
}

func (p *parser) importation() api.Node {
	at := p.begin()
	p.want("import")
	name := p.name()
	p.want(";")
	return p.node(api.NdImport, name, at)
}

func (p *parser) declaration() api.Node {
	switch p.fixed() {
	case "class":
		return p.class()
	case "interface":
		return p.interfaceType()
	case "func":
		return p.function()
	case "var":
		return p.variable()
	}
	panic(p.unexpected())
}

func (p *parser) class() api.Node {
	at := p.begin()
	p.want("class")
	name := p.name()
	super := p.optional("extends", (*parser).typeOrMeta)
	supers := p.supers("implements")
	members := p.inBraces((*parser).classMember)
	return p.node(api.NdClass, name, at, super, supers, members)
}

func (p *parser) interfaceType() api.Node {
	at := p.begin()
	p.want("interface")
	name := p.name()
	supers := p.supers("extends")
	members := p.inBraces((*parser).interfaceMember)
	return p.node(api.NdInterface, name, at, supers, members)
}

// supers reads the list of types after a keyword, which is empty without the keyword.
func (p *parser) supers(word string) api.Node {
	gap := p.end()
	if !p.skip(word) {
		return list(gap, nil)
	}
	return list(gap, p.series((*parser).super))
}

func (p *parser) super() api.Node {
	if p.kind() == api.TkMany {
		return p.leaf(api.NdMany)
	}
	return p.typeOrMeta()
}

func (p *parser) classMember() api.Node {
	switch p.fixed() {
	case "func":
		return p.function()
	case "var":
		return p.variable()
	}
	return p.placeholder()
}

func (p *parser) interfaceMember() api.Node {
	if p.sees("func") {
		return p.signature()
	}
	return p.placeholder()
}

// placeholder reads a metavariable that stands for statements or members, with its semicolon.
func (p *parser) placeholder() api.Node {
	at, kind := p.begin(), api.NdMeta
	switch p.kind() {
	case api.TkMeta:
	case api.TkMany:
		kind = api.NdMany
	default:
		panic(p.unexpected())
	}
	name := p.take()
	p.want(";")
	return p.node(kind, name, at)
}

func (p *parser) function() api.Node {
	at := p.begin()
	name, params, result := p.head()
	block := p.block()
	return p.node(api.NdFunc, name, at, params, result, list(block.At, []api.Node{block}))
}

// signature reads a function of an interface. Its list without a block is where the block would be, before the semicolon.
func (p *parser) signature() api.Node {
	at := p.begin()
	name, params, result := p.head()
	noBlock := p.empty()
	p.want(";")
	return p.node(api.NdFunc, name, at, params, result, noBlock)
}

// head reads a function up to its result type: its name, and the lists of its parameters and of its result type.
func (p *parser) head() (name string, params, result api.Node) {
	p.want("func")
	name = p.name()
	params = p.inParentheses((*parser).parameter)
	result = p.optional(":", (*parser).typeOrMeta)
	return name, params, result
}

func (p *parser) parameter() api.Node {
	if p.kind() == api.TkMany {
		return p.leaf(api.NdMany)
	}
	at := p.begin()
	name := p.name()
	p.want(":")
	kind := p.typeOrMeta()
	return p.node(api.NdParam, name, at, kind)
}

func (p *parser) variable() api.Node {
	at := p.begin()
	p.want("var")
	name := p.name()
	p.want(":")
	kind := p.typeOrMeta()
	value := p.optional("=", (*parser).expression)
	p.want(";")
	return p.node(api.NdVar, name, at, kind, value)
}

func (p *parser) typeOrMeta() api.Node {
	if p.kind() == api.TkMeta {
		return p.leaf(api.NdMeta)
	}
	at := p.begin()
	return p.node(api.NdType, p.typeName(), at)
}

// typeName reads a type, in which there are no blanks then.
func (p *parser) typeName() string {
	name := p.name()
	if p.skip(".") {
		name += "." + p.name()
	}
	return name
}
