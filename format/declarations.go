package format

import "codesearch/api"

// module writes a module that is right, so that what follows its imports are declarations.
func (w *writer) module(n api.Node) {
	for _, kid := range n.Kids {
		if kid.Kind == api.NdImport {
			w.line("import " + kid.Text + ";")
		} else {
			w.fragment(kid)
		}
	}
}

// fragment writes a declaration, a statement or an expression; a NdMeta is an expression.
func (w *writer) fragment(n api.Node) {
	switch n.Kind {
	case api.NdClass:
		w.class(n)
	case api.NdInterface:
		w.interfaceType(n)
	case api.NdFunc:
		w.function(n)
	case api.NdVar, api.NdBlock, api.NdReturn, api.NdIf, api.NdWhile, api.NdAssign, api.NdDo, api.NdMany:
		w.statement(n)
	default:
		w.line(w.expression(n))
	}
}

func (w *writer) class(n api.Node) {
	if !w.counted(n, 3, 3) {
		return
	}
	w.members("class "+w.name(n)+
		w.after(" extends ", n.Kids[0], 1, w.typeText)+
		w.after(" implements ", n.Kids[1], unbounded, w.orMany(w.typeText)), n.Kids[2], w.classMember)
}

func (w *writer) interfaceType(n api.Node) {
	if !w.counted(n, 2, 2) {
		return
	}
	w.members("interface "+w.name(n)+
		w.after(" extends ", n.Kids[0], unbounded, w.orMany(w.typeText)), n.Kids[1], w.interfaceMember)
}

// members writes the lines of a class or an interface.
func (w *writer) members(head string, list api.Node, member func(api.Node)) {
	w.list(list, 0, unbounded)
	w.line(head + " {")
	w.within(list.Kids, member)
	w.line("}")
}

func (w *writer) classMember(n api.Node) {
	switch n.Kind {
	case api.NdFunc:
		w.function(n)
	case api.NdVar:
		w.variable(n)
	default:
		w.placeholder(n)
	}
}

func (w *writer) interfaceMember(n api.Node) {
	if n.Kind == api.NdFunc {
		w.signature(n)
	} else {
		w.placeholder(n)
	}
}

// placeholder writes a metavariable as a statement or a member.
func (w *writer) placeholder(n api.Node) {
	w.line(w.metavariable(n) + ";")
}

func (w *writer) function(n api.Node) {
	if w.counted(n, 3, 3) && w.list(n.Kids[2], 1, 1) {
		w.block(w.head(n)+" ", n.Kids[2].Kids[0])
	}
}

// signature writes a function of an interface, which has no block.
func (w *writer) signature(n api.Node) {
	if w.counted(n, 3, 3) && w.list(n.Kids[2], 0, 0) {
		w.line(w.head(n) + ";")
	}
}

// head returns a function up to its result type.
func (w *writer) head(n api.Node) string {
	return "func " + w.name(n) +
		"(" + w.listed(n.Kids[0], unbounded, w.orMany(w.parameter)) + ")" +
		w.after(": ", n.Kids[1], 1, w.typeText)
}

func (w *writer) parameter(n api.Node) string {
	if !w.holds(n.Kind == api.NdParam) || !w.counted(n, 1, 1) {
		return ""
	}
	return w.name(n) + ": " + w.typeText(n.Kids[0])
}

func (w *writer) variable(n api.Node) {
	if w.counted(n, 2, 2) {
		w.line("var " + w.name(n) + ": " + w.typeText(n.Kids[0]) + w.after(" = ", n.Kids[1], 1, w.expression) + ";")
	}
}

// typeText returns a type, or a metavariable instead of one.
func (w *writer) typeText(n api.Node) string {
	if n.Kind == api.NdMeta {
		return w.metavariable(n)
	}
	w.holds(n.Kind == api.NdType)
	w.counted(n, 0, 0)
	return w.typeName(n)
}

// typeName returns the Text of a type or a NdNew, which has to be what can follow new.
func (w *writer) typeName(n api.Node) string {
	w.wants("new "+n.Text+"()", api.Node{Kind: api.NdNew, Text: n.Text})
	return n.Text
}
