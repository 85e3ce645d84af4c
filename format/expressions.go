package format

import (
	"strconv"

	"codesearch/api"
)

// The levels of expressions that are no NdBinary: what has a greater one binds its parts more tightly.
const (
	unaryLevel   = 7
	postfixLevel = 8
)

// level returns the level of an expression.
func level(n api.Node) int {
	switch n.Kind {
	case api.NdBinary:
		return operatorLevel(n.Text)
	case api.NdUnary:
		return unaryLevel
	}
	return postfixLevel
}

// operatorLevel returns the level of an operator between two expressions, 0 if it is none.
func operatorLevel(operator string) int {
	switch operator {
	case "||":
		return 1
	case "&&":
		return 2
	case "==", "!=":
		return 3
	case "<", ">":
		return 4
	case "+", "-":
		return 5
	case "*", "/", "%":
		return 6
	}
	return 0
}

func (w *writer) expression(n api.Node) string {
	switch n.Kind {
	case api.NdName, api.NdInt, api.NdConst:
		w.wants(n.Text, n)
		return n.Text
	case api.NdText:
		return w.literal(n)
	case api.NdMeta:
		return w.metavariable(n)
	case api.NdMember:
		return w.member(n)
	case api.NdCall:
		return w.call(n)
	case api.NdNew:
		return w.creation(n)
	case api.NdUnary:
		return w.unary(n)
	case api.NdBinary:
		return w.binary(n)
	}
	w.wrong = true
	return ""
}

// operand returns an expression, in parentheses if its level is less than the least one.
func (w *writer) operand(n api.Node, least int) string {
	text := w.expression(n)
	if level(n) < least {
		return "(" + text + ")"
	}
	return text
}

func (w *writer) literal(n api.Node) string {
	// Of the bytes that the contents can have, this replaces the same ones in the same way.
	text := strconv.Quote(n.Text)
	w.wants(text, n)
	return text
}

func (w *writer) member(n api.Node) string {
	if !w.counted(n, 1, 1) {
		return ""
	}
	return w.operand(n.Kids[0], postfixLevel) + "." + w.name(n)
}

func (w *writer) call(n api.Node) string {
	if !w.plain(n, 1, unbounded) {
		return ""
	}
	return w.operand(n.Kids[0], postfixLevel) + w.arguments(n.Kids[1:])
}

func (w *writer) creation(n api.Node) string {
	return "new " + w.typeName(n) + w.arguments(n.Kids)
}

func (w *writer) arguments(nodes []api.Node) string {
	return "(" + series(nodes, w.orMany(w.expression)) + ")"
}

func (w *writer) unary(n api.Node) string {
	if !w.holds(n.Text == "!" || n.Text == "-") || !w.counted(n, 1, 1) {
		return ""
	}
	return n.Text + w.operand(n.Kids[0], unaryLevel)
}

func (w *writer) binary(n api.Node) string {
	own := operatorLevel(n.Text)
	if !w.holds(own > 0) || !w.counted(n, 2, 2) {
		return ""
	}
	return w.operand(n.Kids[0], own) + " " + n.Text + " " + w.operand(n.Kids[1], own+1)
}
