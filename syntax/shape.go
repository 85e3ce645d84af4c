package syntax

import (
	"math"
	"strings"

	"codesearch/api"
	"codesearch/token"
)

// Right reports whether a tree has the shape of a module: whether it is the tree of the text of some module, apart from positions, with at most MaxDepth levels; the length of the text and the number of its tokens do not matter.
func Right(n api.Node) bool {
	if _, deep := onLevel(n, api.MaxDepth+1); deep {
		return false
	}
	var s shape
	return s.module(n) && s.rightTokens()
}

// unbounded is instead of the greatest number of kids, if there is none.
const unbounded = math.MaxInt

// A shape examines a tree. Its methods for nodes report whether a node is what they are named after, if all tokens that they expect are right: token.Print examines many tokens at once in much less time than one by one.
type shape struct {
	tokens []api.Token
}

// expect notes that a Text has to be a token of a kind.
func (s *shape) expect(kind int, text string) {
	s.tokens = append(s.tokens, api.Token{Kind: kind, Text: text})
}

func (s *shape) rightTokens() bool {
	_, err := token.Print(s.tokens)
	return err == api.OK
}

// kids reports whether there are from least to most nodes, all of which are what element is named after.
func (s *shape) kids(l []api.Node, least, most int, element func(*shape, api.Node) bool) bool {
	if len(l) < least || len(l) > most {
		return false
	}
	for _, n := range l {
		if !element(s, n) {
			return false
		}
	}
	return true
}

func (s *shape) list(n api.Node, least, most int, element func(*shape, api.Node) bool) bool {
	return n.Kind == api.NdList && n.Text == "" && s.kids(n.Kids, least, most, element)
}

// named reports whether a node with a name has so many kids.
func (s *shape) named(n api.Node, kids int) bool {
	s.expect(api.TkName, n.Text)
	return len(n.Kids) == kids
}

// plain reports whether a node without a Text has so many kids.
func plain(n api.Node, kids int) bool { return n.Text == "" && len(n.Kids) == kids }

// leaf reports whether a node that is a token of a kind has no kids.
func (s *shape) leaf(n api.Node, kind int) bool {
	s.expect(kind, n.Text)
	return len(n.Kids) == 0
}

func (s *shape) module(n api.Node) bool {
	imports := 0
	for imports < len(n.Kids) && n.Kids[imports].Kind == api.NdImport {
		imports++
	}
	return n.Kind == api.NdModule && n.Text == "" &&
		s.kids(n.Kids[:imports], 0, unbounded, (*shape).importation) && s.kids(n.Kids[imports:], 0, unbounded, (*shape).declaration)
}

func (s *shape) importation(n api.Node) bool { return s.leaf(n, api.TkName) }

func (s *shape) declaration(n api.Node) bool {
	switch n.Kind {
	case api.NdClass:
		return s.named(n, 3) && s.list(n.Kids[0], 0, 1, (*shape).typeNode) && s.list(n.Kids[1], 0, unbounded, (*shape).typeNode) && s.list(n.Kids[2], 0, unbounded, (*shape).classMember)
	case api.NdInterface:
		return s.named(n, 2) && s.list(n.Kids[0], 0, unbounded, (*shape).typeNode) && s.list(n.Kids[1], 0, unbounded, (*shape).signature)
	}
	return s.classMember(n)
}

func (s *shape) classMember(n api.Node) bool {
	return s.variable(n) || s.function(n, 1)
}

func (s *shape) signature(n api.Node) bool { return s.function(n, 0) }

// function is told how many blocks there have to be.
func (s *shape) function(n api.Node, blocks int) bool {
	return n.Kind == api.NdFunc && s.named(n, 3) &&
		s.list(n.Kids[0], 0, unbounded, (*shape).parameter) && s.list(n.Kids[1], 0, 1, (*shape).typeNode) && s.list(n.Kids[2], blocks, blocks, (*shape).block)
}

func (s *shape) parameter(n api.Node) bool {
	return n.Kind == api.NdParam && s.named(n, 1) && s.typeNode(n.Kids[0])
}

func (s *shape) variable(n api.Node) bool {
	return n.Kind == api.NdVar && s.named(n, 2) && s.typeNode(n.Kids[0]) && s.list(n.Kids[1], 0, 1, (*shape).expression)
}

func (s *shape) typeNode(n api.Node) bool {
	s.expectType(n.Text)
	return n.Kind == api.NdType && len(n.Kids) == 0
}

func (s *shape) expectType(text string) {
	first, second, dotted := strings.Cut(text, ".")
	s.expect(api.TkName, first)
	if dotted {
		s.expect(api.TkName, second)
	}
}

func (s *shape) block(n api.Node) bool {
	return n.Kind == api.NdBlock && n.Text == "" && s.kids(n.Kids, 0, unbounded, (*shape).statement)
}

func (s *shape) statement(n api.Node) bool {
	switch n.Kind {
	case api.NdVar:
		return s.variable(n)
	case api.NdBlock:
		return s.block(n)
	case api.NdReturn:
		return n.Text == "" && s.kids(n.Kids, 0, 1, (*shape).expression)
	case api.NdIf:
		return plain(n, 3) && s.expression(n.Kids[0]) && s.block(n.Kids[1]) && s.list(n.Kids[2], 0, 1, (*shape).block)
	case api.NdWhile:
		return plain(n, 2) && s.expression(n.Kids[0]) && s.block(n.Kids[1])
	case api.NdAssign:
		return plain(n, 2) && s.expression(n.Kids[0]) && s.expression(n.Kids[1])
	case api.NdDo:
		return plain(n, 1) && s.expression(n.Kids[0])
	}
	return false
}

func (s *shape) expression(n api.Node) bool {
	switch n.Kind {
	case api.NdName:
		return s.leaf(n, api.TkName)
	case api.NdInt:
		return s.leaf(n, api.TkInt)
	case api.NdText:
		return s.leaf(n, api.TkText)
	case api.NdConst:
		return constant(n.Text) && len(n.Kids) == 0
	case api.NdMember:
		return s.named(n, 1) && s.expression(n.Kids[0])
	case api.NdCall:
		return n.Text == "" && s.kids(n.Kids, 1, unbounded, (*shape).expression)
	case api.NdNew:
		s.expectType(n.Text)
		return s.kids(n.Kids, 0, unbounded, (*shape).expression)
	case api.NdUnary:
		return prefix(n.Text) && s.kids(n.Kids, 1, 1, (*shape).expression)
	case api.NdBinary:
		return level(n.Text) > 0 && s.kids(n.Kids, 2, 2, (*shape).expression)
	}
	return false
}
