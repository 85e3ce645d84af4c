package format

import (
	"math"
	"strings"

	"codesearch/api"
	"codesearch/syntax"
)

// unbounded is instead of the greatest number of kids, if there is none.
const unbounded = math.MaxInt

// A writer writes the lines of a tree, and finds out on the way whether the tree has the shape of a fragment: each method sets wrong if its node is not what the method is named after. Names, integers and the contents of literals are left to readable.
type writer struct {
	lines  []string
	inside int // how many lines with { have no } yet
	wrong  bool
	texts  []string   // what has to be read as an argument of a call,
	nodes  []api.Node // and the trees that have to be read
}

// holds sets wrong if a condition does not hold, and returns the condition.
func (w *writer) holds(condition bool) bool {
	w.wrong = w.wrong || !condition
	return condition
}

// counted wants a node to have from least to most kids.
func (w *writer) counted(n api.Node, least, most int) bool {
	return w.holds(least <= len(n.Kids) && len(n.Kids) <= most)
}

// plain wants a node to have no Text, and from least to most kids.
func (w *writer) plain(n api.Node, least, most int) bool {
	return w.holds(n.Text == "") && w.counted(n, least, most)
}

// list wants a list with from least to most kids.
func (w *writer) list(n api.Node, least, most int) bool {
	return w.holds(n.Kind == api.NdList) && w.plain(n, least, most)
}

// wants notes that an argument of a call has to be read as a tree.
func (w *writer) wants(argument string, n api.Node) {
	w.texts = append(w.texts, argument)
	w.nodes = append(w.nodes, n)
}

// groupSize is how many arguments are read at once. Each has at most 7 tokens, with its comma ("new a.B(),"), so that all have fewer than MaxTokens.
const groupSize = 80

// readable reports whether all that wants noted is so. A wrong name, integer or literal cannot hide here, whatever it contains, since it is never in a tree that syntax.Fragment returns.
func (w *writer) readable() bool {
	for at := 0; at < len(w.texts); at += groupSize {
		end := min(at+groupSize, len(w.texts))
		called := api.Node{Kind: api.NdName, Text: "f"}
		want := api.Node{Kind: api.NdCall, Kids: append([]api.Node{called}, w.nodes[at:end]...)}
		got, _, err := syntax.Fragment(syntax.FragExpr, "f("+strings.Join(w.texts[at:end], ",")+")")
		if err != api.OK || !syntax.Same(got, want) {
			return false
		}
	}
	return true
}

// line writes a line.
func (w *writer) line(s string) {
	w.lines = append(w.lines, strings.Repeat("  ", w.inside)+s)
}

// within writes nodes between a line with { and one with }.
func (w *writer) within(nodes []api.Node, element func(api.Node)) {
	w.inside++
	for _, n := range nodes {
		element(n)
	}
	w.inside--
}

// series returns nodes with commas between them.
func series(nodes []api.Node, element func(api.Node) string) string {
	var texts []string
	for _, n := range nodes {
		texts = append(texts, element(n))
	}
	return strings.Join(texts, ", ")
}

// listed returns the kids of a list with commas between them.
func (w *writer) listed(n api.Node, most int, element func(api.Node) string) string {
	w.list(n, 0, most)
	return series(n.Kids, element)
}

// after returns the kids of a list behind some words, nothing if it has none.
func (w *writer) after(words string, n api.Node, most int, element func(api.Node) string) string {
	text := w.listed(n, most, element)
	if len(n.Kids) == 0 {
		return ""
	}
	return words + text
}

// orMany returns a function that also writes metavariables for a sequence.
func (w *writer) orMany(element func(api.Node) string) func(api.Node) string {
	return func(n api.Node) string {
		if n.Kind == api.NdMany {
			return w.metavariable(n)
		}
		return element(n)
	}
}

// metavariable returns a NdMeta or a NdMany. Both can be arguments; readable finds a node of another kind, as it is not read from a text with $.
func (w *writer) metavariable(n api.Node) string {
	text := "$" + n.Text
	if n.Kind == api.NdMany {
		text = "$$" + n.Text
	}
	w.wants(text, n)
	return text
}

// name returns the name of a declaration or a member.
func (w *writer) name(n api.Node) string {
	w.wants(n.Text, api.Node{Kind: api.NdName, Text: n.Text})
	return n.Text
}
