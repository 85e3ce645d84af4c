package syntax_test

import (
	"math/rand"
	"slices"
	"strconv"
	"testing"

	"codesearch/api"
	"codesearch/syntax"
)

// exact writes a tree so that no two different ones are written alike.
func exact(n api.Node, positions bool) string { return string(appendExact(nil, n, positions)) }

func appendExact(s []byte, n api.Node, positions bool) []byte {
	s = append(s, '(')
	s = strconv.AppendQuote(strconv.AppendInt(s, int64(n.Kind), 10), n.Text)
	if positions {
		s = strconv.AppendInt(append(s, '@'), int64(n.At), 10)
		s = strconv.AppendInt(append(s, ','), int64(n.End), 10)
	}
	for _, kid := range n.Kids {
		s = appendExact(s, kid, positions)
	}
	return append(s, ')')
}

// anyTree returns a tree of some nodes, which no source needs to have, with at most so many levels.
func anyTree(r *rand.Rand, levels int) api.Node {
	n := api.Node{Kind: r.Intn(30) - 2, Text: []string{"", "", "a", "b", "(", ")", "\x00"}[r.Intn(7)], At: r.Intn(12) - 2}
	n.End = n.At + r.Intn(12) - 2
	if levels > 1 {
		for range r.Intn(5) {
			n.Kids = append(n.Kids, anyTree(r, levels-1))
		}
	}
	if len(n.Kids) == 0 && r.Intn(2) == 0 {
		n.Kids = []api.Node{}
	}
	return n
}

// wide returns a tree with n leaves, deep one with n levels.
func wide(n int) api.Node {
	tree := api.Node{Kind: api.NdCall, At: -1, End: n}
	for i := range n {
		tree.Kids = append(tree.Kids, api.Node{Kind: api.NdInt, Text: strconv.Itoa(i), At: i, End: i + 1})
	}
	return tree
}

func deep(n int) api.Node {
	tree := api.Node{Kind: api.NdName, At: 0, End: 1}
	for range n - 1 {
		tree = api.Node{Kind: api.NdUnary, Text: "-", At: 0, End: 1, Kids: []api.Node{tree}}
	}
	return tree
}

// wanted lists the nodes of a tree in preorder, by the places of each node on its way down from the root.
func wanted(n api.Node) []api.Node {
	var l []api.Node
	for stack := []api.Node{n}; len(stack) > 0; {
		top := stack[len(stack)-1]
		stack = stack[:len(stack)-1]
		l = append(l, top)
		for _, kid := range slices.Backward(top.Kids) {
			stack = append(stack, kid)
		}
	}
	return l
}

// around follows the definition.
func around(n api.Node, off int) []api.Node {
	if off < n.At || off >= n.End {
		return nil
	}
	for _, kid := range n.Kids {
		if off >= kid.At && off < kid.End {
			return append([]api.Node{n}, around(kid, off)...)
		}
	}
	return []api.Node{n}
}

func equal(a, b []api.Node) bool {
	return slices.EqualFunc(a, b, func(x, y api.Node) bool { return exact(x, true) == exact(y, true) })
}

// counted compares Size, Depth, Nodes and Around with their definitions.
func counted(t *testing.T, n api.Node, offsets []int) {
	t.Helper()
	before := exact(n, true)
	size, depth := 0, 0
	for len(onLevel(n, depth+1)) > 0 {
		depth++
		size += len(onLevel(n, depth))
	}
	if got, want := syntax.Size(n), size; got != want {
		t.Errorf("%s: %d nodes", before, got)
	}
	if got := syntax.Depth(n); got != depth {
		t.Errorf("%s: %d levels", before, got)
	}
	if got := syntax.Nodes(n); !equal(got, wanted(n)) {
		t.Errorf("%s: %v", before, got)
	}
	for _, off := range offsets {
		if got := syntax.Around(n, off); !equal(got, around(n, off)) {
			t.Errorf("%s around %d: %v", before, off, got)
		}
	}
	if after := exact(n, true); after != before {
		t.Errorf("%s became %s", before, after)
	}
}

func numbers(from, to int) []int {
	l := []int{-1 << 63, -1 << 62, 1 << 62, 1<<63 - 1}
	for i := from; i <= to; i++ {
		l = append(l, i)
	}
	return l
}

func TestAnyTrees(t *testing.T) { // P12.3, P12.4
	counted(t, api.Node{}, numbers(-2, 2))
	counted(t, api.Node{Kind: 1, At: -1 << 63, End: 1<<63 - 1}, numbers(-2, 2))
	counted(t, api.Node{Kind: 1, At: 3, End: 3}, numbers(0, 6))
	counted(t, api.Node{Kind: 1, At: 5, End: 3}, numbers(0, 6))
	counted(t, api.Node{Kind: 1, At: 3, End: 4}, numbers(0, 6))
	for seed := range 1200 {
		r := rand.New(rand.NewSource(int64(seed)))
		counted(t, anyTree(r, 1+seed%5), numbers(-5, 22))
	}
	for seed := range 300 {
		s, n, _ := made(rand.New(rand.NewSource(int64(seed))), []int{module, 1, 2, 3}[seed%4], 4)
		if syntax.Size(n) < 200 {
			counted(t, n, numbers(-1, len(s)+1))
		}
	}
}

func TestGreatTrees(t *testing.T) { // P12.3, P12.4
	for _, n := range []int{1, 2, 100, 1000, 1 << 16} {
		tree := deep(n)
		if size, depth := syntax.Size(tree), syntax.Depth(tree); size != n || depth != n {
			t.Errorf("%d nodes and %d levels, not %d", size, depth, n)
		}
		other := deep(n)
		if !syntax.Same(tree, other) || syntax.Same(tree, deep(n+1)) || syntax.Same(deep(n+1), tree) {
			t.Errorf("Same with %d levels", n)
		}
		nodes, path := syntax.Nodes(tree), syntax.Around(tree, 0)
		for _, l := range [][]api.Node{nodes, path} {
			if len(l) != n || l[n-1].Kind != api.NdName || l[0].Kind != tree.Kind || len(l[0].Kids) != len(tree.Kids) {
				t.Errorf("%d nodes, not %d", len(l), n)
			}
		}
		if len(syntax.Around(tree, 1)) != 0 || syntax.Right(tree) {
			t.Error("Around, or Right")
		}
	}
	for _, n := range []int{1, 2, 1000, 1 << 15, 1<<15 + 1, 1 << 16, 1 << 20} {
		tree := wide(n)
		if size, depth := syntax.Size(tree), syntax.Depth(tree); size != n+1 || depth != 2 {
			t.Errorf("%d nodes and %d levels", size, depth)
		}
		nodes := syntax.Nodes(tree)
		if len(nodes) != n+1 || nodes[n].Text != strconv.Itoa(n-1) || len(nodes[0].Kids) != n || nodes[0].Kids[n-1].Text != nodes[n].Text || nodes[1].Text != "0" {
			t.Errorf("%d nodes", len(nodes))
		}
		if path := syntax.Around(tree, n-1); len(path) != 2 || path[1].At != n-1 || len(path[0].Kids) != n {
			t.Errorf("%d nodes", len(path))
		}
		other := wide(n)
		if !syntax.Same(tree, other) {
			t.Error("not the same")
		}
		other.Kids[n-1].Text = "x"
		if syntax.Same(tree, other) || syntax.Same(other, tree) {
			t.Error("the same")
		}
	}
}

func TestAround(t *testing.T) { // P12.4
	byOffsets := func(ends ...int) api.Node { return api.Node{At: ends[0], End: ends[1]} }
	n := byOffsets(2, 20)
	for i, ends := range [][]int{{3, 5}, {5, 5}, {4, 8}, {12, 9}, {10, 12}, {15, 30}, {-5, 3}, {20, 25}} {
		kid := byOffsets(ends...)
		kid.Kind = i + 1
		n.Kids = append(n.Kids, kid)
	}
	n.Kids[2].Kids = []api.Node{{Kind: 11, At: 0, End: 100}, {Kind: 12, At: 5, End: 6}}
	for off, want := range map[int][]int{1: nil, -1: nil, 20: nil, 21: nil, 24: nil, 2: {0, 7}, 3: {0, 1}, 4: {0, 1}, 5: {0, 3, 11}, 7: {0, 3, 11}, 8: {0}, 9: {0}, 10: {0, 5}, 11: {0, 5}, 12: {0}, 14: {0}, 15: {0, 6}, 19: {0, 6}} {
		var got []int
		for _, n := range syntax.Around(n, off) {
			got = append(got, n.Kind)
		}
		if !slices.Equal(got, want) {
			t.Errorf("around %d: %v, not %v", off, got, want)
		}
	}
}

func TestSame(t *testing.T) { // P12.3
	var trees []api.Node
	for seed := range 60 {
		n := anyTree(rand.New(rand.NewSource(int64(seed))), 1+seed%4)
		trees = append(trees, n, cloned(n))
		moved := cloned(n)
		places(&moved, func(n *api.Node) { n.At, n.End = n.End+1, n.At-1 })
		if !syntax.Same(n, moved) || !syntax.Same(moved, n) {
			t.Errorf("%s: positions matter", exact(n, true))
		}
		other := cloned(n)
		places(&other, func(m *api.Node) {
			whole := *m
			for _, change := range []func(){func() { m.Kind++ }, func() { m.Kind = -m.Kind - 1 }, func() { m.Text += "x" }, func() { m.Kids = append(slices.Clone(m.Kids), api.Node{}) }, func() { m.Kids = append([]api.Node{{}}, m.Kids...) }, func() { m.Kids = m.Kids[:len(m.Kids)/2] }} {
				change()
				if got, want := syntax.Same(n, other), exact(n, false) == exact(other, false); got != want || syntax.Same(other, n) != want {
					t.Errorf("%s, %s: %v", exact(n, true), exact(other, true), got)
				}
				*m = whole
			}
		})
	}
	for _, a := range trees {
		for _, b := range trees {
			if got := syntax.Same(a, b); got != (exact(a, false) == exact(b, false)) {
				t.Errorf("%s, %s: %v", exact(a, false), exact(b, false), got)
			}
		}
	}
	if !syntax.Same(api.Node{Kids: []api.Node{}}, api.Node{}) {
		t.Error("no kids are not no kids")
	}
}

// disturb changes everything below a node.
func disturb(n api.Node) {
	for i := range n.Kids {
		places(&n.Kids[i], func(n *api.Node) { n.Kind, n.Text, n.At = -7, "disturbed", -7 })
	}
}

func TestMemory(t *testing.T) { // LANGUAGE.md: results are new memory
	n, _, _ := syntax.Module(richest)
	before := exact(n, true)
	calls := []func() []api.Node{func() []api.Node { return syntax.Nodes(n) }}
	for off := range len(richest) {
		calls = append(calls, func() []api.Node { return syntax.Around(n, off) })
	}
	for _, call := range calls {
		want := call()
		for i := range want {
			got := call()
			disturb(got[i])
			for j := range got {
				if i != j && exact(got[j], true) != exact(want[j], true) {
					t.Fatalf("%d shares memory with %d", j, i)
				}
			}
		}
		if exact(n, true) != before {
			t.Fatal("the argument has changed")
		}
	}
	again, _, _ := syntax.Module(richest)
	disturb(again)
	if once, _, _ := syntax.Module(richest); exact(once, true) != before || exact(n, true) != before {
		t.Error("modules share memory")
	}
	for i := range n.Kids {
		once, _, _ := syntax.Module(richest)
		disturb(once.Kids[i])
		for j := range n.Kids {
			if i != j && exact(once.Kids[j], true) != exact(n.Kids[j], true) {
				t.Errorf("%d shares memory with %d", j, i)
			}
		}
	}
}

func TestSameResults(t *testing.T) { // the result of a call depends on its arguments alone
	for what, l := range sentences {
		for _, s := range l {
			a, _, _ := parse(what, s)
			parse(what, s+" &")
			parse(what, s+" )")
			if b, _, _ := parse(what, s); exact(a, true) != exact(b, true) {
				t.Errorf("%q: %s, then %s", s, exact(a, true), exact(b, true))
			}
		}
	}
}
