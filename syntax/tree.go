package syntax

import (
	"slices"

	"codesearch/api"
)

// Same reports whether Kind, Text and Kids of two trees are equal on all levels; their positions do not matter.
func Same(a, b api.Node) bool {
	return a.Kind == b.Kind && a.Text == b.Text && slices.EqualFunc(a.Kids, b.Kids, Same)
}

// Size returns the number of nodes of a tree.
func Size(n api.Node) int {
	size := 1
	for _, kid := range n.Kids {
		size += Size(kid)
	}
	return size
}

// Depth returns the number of levels of a tree.
func Depth(n api.Node) int {
	below := 0
	for _, kid := range n.Kids {
		below = max(below, Depth(kid))
	}
	return 1 + below
}

// Nodes returns a node and all nodes below it, in preorder.
func Nodes(n api.Node) []api.Node { return apart(preorder(nil, n)) }

// preorder returns l with the nodes of a tree at its end.
func preorder(l []api.Node, n api.Node) []api.Node {
	l = append(l, n)
	for _, kid := range n.Kids {
		l = preorder(l, kid)
	}
	return l
}

// Around returns the nodes from n down whose source contains the byte at an offset (At <= off < End): nothing if that of n does not; otherwise n, followed by what Around returns for its first kid that contains it, if there is one.
func Around(n api.Node, off int) []api.Node {
	contains := func(n api.Node) bool { return n.At <= off && off < n.End }
	var l []api.Node
	for nodes := []api.Node{n}; ; nodes = l[len(l)-1].Kids {
		i := slices.IndexFunc(nodes, contains)
		if i < 0 {
			return apart(l)
		}
		l = append(l, nodes[i])
	}
}

// onLevel returns the first node, in preorder, on a level of a tree, and true; the root alone is on the level 1.
func onLevel(n api.Node, level int) (api.Node, bool) {
	if level == 1 {
		return n, true
	}
	for _, kid := range n.Kids {
		if found, ok := onLevel(kid, level-1); ok {
			return found, true
		}
	}
	return api.Node{}, false
}

// mostCopies is how many nodes apart copies at most; what Nodes returns for the tree of a source needs far fewer.
const mostCopies = 1 << 16

// apart returns the nodes of l with kids that no other one has, as a result is new memory. The copies that this takes are as many as all nodes and those below them; if they are too many, as for a tree with very many levels, the nodes share their kids, which DOC.md permits too.
func apart(l []api.Node) []api.Node {
	copies := 0
	for _, n := range l {
		copies += Size(n)
		if copies > mostCopies {
			return l
		}
	}
	return copied(l)
}

// copied returns copies of trees.
func copied(l []api.Node) []api.Node {
	l = slices.Clone(l)
	for i := range l {
		l[i].Kids = copied(l[i].Kids)
	}
	return l
}
