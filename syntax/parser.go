package syntax

import "codesearch/api"

// A parser reads the tokens of a source from the first one to the last one. Its methods that return a node read what they are named after, and panic with a fault if the next token is none that can stand there.
type parser struct {
	tokens []api.Token
	next   int // the index of the token that is read next
	length int // of the source
}

// A fault is an error with its offset.
type fault struct {
	at  int
	err api.Errno
}

// read returns the tree that goal makes of all tokens, 0 and OK; otherwise a zero node, an offset and an error.
func read(goal func(*parser) api.Node, tokens []api.Token, length int) (n api.Node, at int, err api.Errno) {
	defer func() {
		if f, ok := recover().(fault); ok {
			n, at, err = api.Node{}, f.at, f.err
		}
	}()
	p := &parser{tokens: tokens, length: length}
	n = goal(p)
	if !p.ended() {
		panic(p.unexpected())
	}
	if deep, ok := onLevel(n, api.MaxDepth+1); ok {
		panic(fault{deep.At, api.ErrLong})
	}
	return n, 0, api.OK
}

// unexpected returns the fault that the next token is none that can stand here.
func (p *parser) unexpected() fault { return fault{p.begin(), api.ErrSyntax} }

func (p *parser) ended() bool { return p.next == len(p.tokens) }

// begin returns where the next token begins.
func (p *parser) begin() int {
	if p.ended() {
		return p.length
	}
	return p.tokens[p.next].At
}

// end returns where the token that was read last ends.
func (p *parser) end() int { return p.tokens[p.next-1].End }

// kind returns the kind of the next token, 0 if there is none.
func (p *parser) kind() int { return p.kindAt(p.next) }

func (p *parser) kindAt(i int) int {
	if i >= len(p.tokens) {
		return 0
	}
	return p.tokens[i].Kind
}

// sees reports whether the next token is a certain keyword or mark.
func (p *parser) sees(fixed string) bool { return p.fixed() == fixed }

// fixed returns the next token if it is a keyword or a mark, otherwise the empty string.
func (p *parser) fixed() string { return p.fixedAt(p.next) }

func (p *parser) fixedAt(i int) string {
	switch p.kindAt(i) {
	case api.TkWord, api.TkMark:
		return p.tokens[i].Text
	}
	return ""
}

// skip reads a keyword or a mark, if it is the next token.
func (p *parser) skip(fixed string) bool {
	found := p.sees(fixed)
	if found {
		p.next++
	}
	return found
}

// want reads a keyword or a mark, which must be the next token.
func (p *parser) want(fixed string) {
	if !p.skip(fixed) {
		panic(p.unexpected())
	}
}

// name reads a name.
func (p *parser) name() string {
	if p.kind() != api.TkName {
		panic(p.unexpected())
	}
	return p.take()
}

// take reads the next token, whatever it is.
func (p *parser) take() string {
	p.next++
	return p.tokens[p.next-1].Text
}

// node returns a node from an offset to the end of the token that was read last.
func (p *parser) node(kind int, text string, at int, kids ...api.Node) api.Node {
	return api.Node{Kind: kind, Text: text, At: at, End: p.end(), Kids: kids}
}

// leaf reads one token as a node.
func (p *parser) leaf(kind int) api.Node {
	at := p.begin()
	return p.node(kind, p.take(), at)
}

// list returns a list, which is at gap if it is empty.
func list(gap int, kids []api.Node) api.Node {
	n := api.Node{Kind: api.NdList, At: gap, End: gap, Kids: kids}
	if len(kids) > 0 {
		n.At, n.End = kids[0].At, kids[len(kids)-1].End
	}
	return n
}

// empty returns an empty list behind the token that was read last.
func (p *parser) empty() api.Node { return list(p.end(), nil) }

// optional reads a list of one element, which begins after a keyword or a mark, or of none without this one.
func (p *parser) optional(fixed string, element func(*parser) api.Node) api.Node {
	gap := p.end()
	if !p.skip(fixed) {
		return list(gap, nil)
	}
	return list(gap, []api.Node{element(p)})
}

// series reads one element or more, with commas between them.
func (p *parser) series(element func(*parser) api.Node) []api.Node {
	kids := []api.Node{element(p)}
	for p.skip(",") {
		kids = append(kids, element(p))
	}
	return kids
}

// inParentheses reads a list of elements with commas between them, in parentheses.
func (p *parser) inParentheses(element func(*parser) api.Node) api.Node {
	p.want("(")
	gap := p.end()
	if p.skip(")") {
		return list(gap, nil)
	}
	kids := p.series(element)
	p.want(")")
	return list(gap, kids)
}

// inBraces reads a list of elements in braces.
func (p *parser) inBraces(element func(*parser) api.Node) api.Node {
	p.want("{")
	gap := p.end()
	var kids []api.Node
	for !p.skip("}") {
		kids = append(kids, element(p))
	}
	return list(gap, kids)
}
