package decl

import (
	"strings"

	"codesearch/api"
)

// A collector collects the declarations of a module, and its problems.
type collector struct {
	module   string
	doc      int
	decls    []api.Decl
	problems []api.Problem
}

// A scope is a declaration in which others are declared: its ID, its name, and the simple names that are declared in it already.
type scope struct {
	id    int
	name  string
	names map[string]bool
}

// scopeOf returns a declaration as a scope in which nothing is declared yet.
func scopeOf(d api.Decl) scope {
	return scope{id: d.ID, name: d.Name, names: map[string]bool{}}
}

// collect adds a module and all that it declares.
func (c *collector) collect(tree api.Node) {
	module := scopeOf(c.add(tree, c.module, 0))
	for _, n := range tree.Kids {
		switch n.Kind {
		case api.NdClass, api.NdInterface:
			if d, ok := c.declare(n, module); ok {
				c.members(n, scopeOf(d))
			}
		case api.NdFunc, api.NdVar:
			c.declare(n, module)
		}
	}
}

// members adds the methods and fields of a class or an interface, which are the kids of its last list.
func (c *collector) members(n api.Node, within scope) {
	for _, k := range kid(n, len(n.Kids)-1).Kids {
		c.declare(k, within)
	}
}

// declare adds the declaration of a node and returns it, and true; if its simple name is declared already, it adds a problem instead and returns false.
func (c *collector) declare(n api.Node, within scope) (api.Decl, bool) {
	if within.names[n.Text] {
		c.problems = append(c.problems, api.Problem{Doc: c.doc, At: n.At, Err: api.ErrTwice})
		return api.Decl{}, false
	}
	within.names[n.Text] = true
	return c.add(n, within.name+"."+n.Text, within.id), true
}

// add adds the declaration of a node with the next ID and returns it.
func (c *collector) add(n api.Node, name string, parent int) api.Decl {
	d := c.described(n)
	d.ID, d.Name, d.Parent = len(c.decls)+1, name, parent
	c.decls = append(c.decls, d)
	return d
}

// described returns a declaration with what its node alone says about it.
func (c *collector) described(n api.Node) api.Decl {
	d := api.Decl{Kind: n.Kind, Doc: c.doc, At: n.At, End: n.End}
	switch n.Kind {
	case api.NdClass:
		d.Super = len(kid(n, 0).Kids) > 0
		d.Supers = append(c.types(kid(n, 0)), c.types(kid(n, 1))...)
	case api.NdInterface:
		d.Supers = c.types(kid(n, 0))
	case api.NdFunc:
		d.Type = "void"
		if result := kid(n, 1).Kids; len(result) > 0 {
			d.Type = c.typeOf(result[0])
		}
		for _, p := range kid(n, 0).Kids {
			d.Params = append(d.Params, c.typeOf(kid(p, 0)))
		}
	case api.NdVar:
		d.Type = c.typeOf(kid(n, 0))
	}
	return d
}

// types returns the types of the nodes of a list.
func (c *collector) types(list api.Node) []string {
	var l []string
	for _, n := range list.Kids {
		l = append(l, c.typeOf(n))
	}
	return l
}

// typeOf returns the type of a node NdType: a name without a dot that is no basic type means a declaration of the module.
func (c *collector) typeOf(n api.Node) string {
	switch n.Text {
	case "int", "bool", "string", "void":
		return n.Text
	}
	if strings.Contains(n.Text, ".") {
		return n.Text
	}
	return c.module + "." + n.Text
}

// kid returns a node's i-th kid, and a zero node if it has none, as can be in a tree that is not a module's.
func kid(n api.Node, i int) api.Node {
	if i < 0 || i >= len(n.Kids) {
		return api.Node{}
	}
	return n.Kids[i]
}
