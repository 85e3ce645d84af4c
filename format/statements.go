package format

import "codesearch/api"

func (w *writer) statement(n api.Node) {
	switch n.Kind {
	case api.NdVar:
		w.variable(n)
	case api.NdBlock:
		w.block("", n)
	case api.NdReturn:
		w.returning(n)
	case api.NdIf:
		w.condition(n)
	case api.NdWhile:
		w.loop(n)
	case api.NdAssign:
		w.assignment(n)
	case api.NdDo:
		w.do(n)
	default:
		w.placeholder(n)
	}
}

// block writes a block, whose first line begins with what is before it.
func (w *writer) block(before string, n api.Node) {
	w.line(before + "{")
	w.statements(n)
	w.line("}")
}

// statements writes what is between the braces of a block.
func (w *writer) statements(n api.Node) {
	w.holds(n.Kind == api.NdBlock)
	w.plain(n, 0, unbounded)
	w.within(n.Kids, w.statement)
}

func (w *writer) returning(n api.Node) {
	if !w.plain(n, 0, 1) {
		return
	}
	text := "return"
	for _, value := range n.Kids {
		text += " " + w.expression(value)
	}
	w.line(text + ";")
}

func (w *writer) condition(n api.Node) {
	if !w.plain(n, 3, 3) || !w.list(n.Kids[2], 0, 1) {
		return
	}
	w.line("if (" + w.expression(n.Kids[0]) + ") {")
	w.statements(n.Kids[1])
	for _, otherwise := range n.Kids[2].Kids {
		w.line("} else {")
		w.statements(otherwise)
	}
	w.line("}")
}

func (w *writer) loop(n api.Node) {
	if w.plain(n, 2, 2) {
		w.block("while ("+w.expression(n.Kids[0])+") ", n.Kids[1])
	}
}

func (w *writer) assignment(n api.Node) {
	if w.plain(n, 2, 2) {
		w.line(w.expression(n.Kids[0]) + " = " + w.expression(n.Kids[1]) + ";")
	}
}

// do writes an expression as a statement. A NdMeta would be read as a statement itself.
func (w *writer) do(n api.Node) {
	if w.plain(n, 1, 1) && w.holds(n.Kids[0].Kind != api.NdMeta) {
		w.line(w.expression(n.Kids[0]) + ";")
	}
}
