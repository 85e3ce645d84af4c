package format_test

import (
	"slices"
	"strconv"
	"strings"
	"testing"

	"codesearch/api"
	"codesearch/format"
	"codesearch/syntax"
	"codesearch/text"
	"codesearch/token"
)

// module stands beside the kinds of fragments.
const module = 0

// parse reads a module, or a fragment of a kind.
func parse(what int, s string) (api.Node, int, api.Errno) {
	if what == module {
		return syntax.Module(s)
	}
	return syntax.Fragment(what, s)
}

// dump writes a tree so that no two different ones are written alike, with or without positions.
func dump(n api.Node, positions bool) string { return string(appendDump(nil, n, positions)) }

func appendDump(s []byte, n api.Node, positions bool) []byte {
	s = append(s, '(')
	s = strconv.AppendQuote(strconv.AppendInt(s, int64(n.Kind), 10), n.Text)
	if positions {
		s = strconv.AppendInt(append(s, '@'), int64(n.At), 10)
		s = strconv.AppendInt(append(s, ','), int64(n.End), 10)
	}
	for _, kid := range n.Kids {
		s = appendDump(s, kid, positions)
	}
	return append(s, ')')
}

// tokensOf returns the tokens of a source that has no error.
func tokensOf(s string) []api.Token {
	tokens, _, err := token.ScanPattern(s)
	if err != api.OK {
		panic("no tokens: " + s)
	}
	return tokens
}

// partners returns, for each opening parenthesis among the tokens, the index of the closing one; -1 for all other tokens.
func partners(tokens []api.Token) []int {
	l, open := make([]int, len(tokens)), []int{}
	for i, x := range tokens {
		l[i] = -1
		if x.Kind == api.TkMark && x.Text == "(" {
			open = append(open, i)
		}
		if x.Kind == api.TkMark && x.Text == ")" && len(open) > 0 {
			l[open[len(open)-1]] = i
			open = open[:len(open)-1]
		}
	}
	return l
}

// without returns the tokens without two of them.
func without(tokens []api.Token, i, j int) []api.Token {
	l := slices.Delete(slices.Clone(tokens), j, j+1)
	return slices.Delete(l, i, i+1)
}

func printed(tokens []api.Token) string {
	s, err := token.Print(tokens)
	if err != api.OK {
		panic("tokens cannot be printed")
	}
	return s
}

// fewest leaves out each pair of parentheses without which the tokens are still the same tree.
func fewest(what int, tokens []api.Token) []api.Token {
	tree, _, err := parse(what, printed(tokens))
	if err != api.OK {
		panic("no tree: " + printed(tokens))
	}
	for i := 0; i < len(tokens); i++ {
		if j := partners(tokens)[i]; j >= 0 {
			fewer := without(tokens, i, j)
			if again, _, err := parse(what, printed(fewer)); err == api.OK && syntax.Same(again, tree) {
				tokens = fewer
				i--
			}
		}
	}
	return tokens
}

// endsOperand reports whether an expression can end with a token, so that - after it is between two expressions, and ( after it begins arguments.
func endsOperand(x api.Token) bool {
	switch x.Kind {
	case api.TkName, api.TkInt, api.TkText, api.TkMeta, api.TkMany:
		return true
	case api.TkWord:
		return slices.Contains([]string{"true", "false", "null", "this"}, x.Text)
	}
	return x.Kind == api.TkMark && x.Text == ")"
}

// layout writes tokens by rules on what is between two of them, without a look at a tree.
func layout(tokens []api.Token) string {
	var lines []string
	line, inside := "", 0
	mark := func(i int, marks ...string) bool {
		return i >= 0 && i < len(tokens) && tokens[i].Kind == api.TkMark && slices.Contains(marks, tokens[i].Text)
	}
	unary := func(i int) bool {
		return mark(i, "!") || mark(i, "-") && (i == 0 || !endsOperand(tokens[i-1]))
	}
	for i, x := range tokens {
		if mark(i, "}") {
			inside--
		}
		switch {
		case line == "":
			line = strings.Repeat(" ", 2*inside)
		case mark(i, ";", ",", ":", ".", ")"), mark(i-1, "(", "."), unary(i - 1):
		case mark(i, "(") && endsOperand(tokens[i-1]):
		default:
			line += " "
		}
		line += printed([]api.Token{x})
		if mark(i, "{") {
			inside++
		}
		goesOn := mark(i, "}") && i+1 < len(tokens) && tokens[i+1].Kind == api.TkWord && tokens[i+1].Text == "else"
		if mark(i, "{", ";") || mark(i, "}") && !goesOn {
			lines = append(lines, line)
			line = ""
		}
	}
	if line != "" {
		lines = append(lines, line)
	}
	return strings.Join(lines, "\n")
}

// canonical returns the canonical text of a source by the definition.
func canonical(what int, s string) string {
	lines := layout(fewest(what, tokensOf(s)))
	switch {
	case what == module && lines != "":
		return lines + "\n"
	case what == syntax.FragStmt && len(tokensOf(s)) == 2 && tokensOf(s)[0].Kind == api.TkMeta:
		return strings.TrimSuffix(lines, ";") // a NdMeta alone
	}
	return lines
}

// becomes wants a source to have a canonical text, by itself and by the definition.
func becomes(t *testing.T, what int, s, want string) {
	t.Helper()
	n, at, err := parse(what, s)
	if err != api.OK {
		t.Errorf("%q: %d, %d", s, at, err)
		return
	}
	before := dump(n, true)
	got, err := format.Fragment(n)
	if what == module {
		got, err = format.Module(n)
	}
	if got != want || err != api.OK {
		t.Errorf("%q becomes %q, %d, not %q", s, got, err, want)
	}
	if byDefinition := canonical(what, s); byDefinition != want {
		t.Errorf("%q is %q by the definition, not %q", s, byDefinition, want)
	}
	if after := dump(n, true); after != before {
		t.Errorf("%s became %s", before, after)
	}
	if what == module {
		cleaned(t, s, want)
	}
	again, _, err := parse(what, want)
	if what == syntax.FragStmt && n.Kind == api.NdMeta {
		again, _, err = parse(syntax.FragExpr, want)
	}
	if err != api.OK || !syntax.Same(again, n) {
		t.Errorf("%q has another tree than %q: %d", want, s, err)
	}
}

// cleaned wants Clean to return a text, and the text to be the only one of both that is canonical.
func cleaned(t *testing.T, s, want string) {
	t.Helper()
	if got, at, err := format.Clean(s); got != want || at != 0 || err != api.OK {
		t.Errorf("Clean(%q) is %q, %d, %d, not %q", s, got, at, err, want)
	}
	if got, at, err := format.Clean(want); got != want || at != 0 || err != api.OK {
		t.Errorf("Clean(%q) is %q, %d, %d", want, got, at, err)
	}
	if !format.Canonical(want) || format.Canonical(s) != (s == want) {
		t.Errorf("%q: %v, %q: %v", want, format.Canonical(want), s, format.Canonical(s))
	}
	if !text.Valid(want) {
		t.Errorf("%q is not valid", want)
	}
}
