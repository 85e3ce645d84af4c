package token_test

import (
	"strings"
	"testing"

	"codesearch/api"
)

// inPattern wants these tokens of a pattern, and that a string has none where the first dollar sign is.
func inPattern(t *testing.T, s string, want ...api.Token) {
	t.Helper()
	if got := scan(s, true); !got.equal(scanned{want, 0, api.OK}) {
		t.Errorf("%.200q: %v", s, got)
	}
	if got := scan(s, false); !got.equal(scanned{nil, strings.Index(s, "$"), api.ErrSyntax}) {
		t.Errorf("%.200q is no pattern: %v", s, got)
	}
}

// noPattern wants an error of a pattern.
func noPattern(t *testing.T, s string, at int, err api.Errno) {
	t.Helper()
	if got := scan(s, true); len(got.tokens) != 0 || got.at != at || got.err != err {
		t.Errorf("%.200q: %v, not %d at %d", s, got, err, at)
	}
}

func TestVariables(t *testing.T) { // P11.3
	for _, s := range []string{"x", "X", "_", "__", "_0", "a1", "Z9_", "xyz", "int", "iff", "classy", "newer", "_if", "If", "NULL", "if_", "if0", "this_", "truefalse", "nul", strings.Repeat("n", 24), "_" + strings.Repeat("9", 23)} {
		inPattern(t, "$"+s, meta(s, 0))
		inPattern(t, "$$"+s, many(s, 0))
		inPattern(t, "a $"+s+" b", name("a", 0), meta(s, 2), name("b", len(s)+4))
		inPattern(t, "a\n$$"+s+"\tb", name("a", 0), many(s, 2), name("b", len(s)+5))
		inPattern(t, "$"+s+"$"+s, meta(s, 0), meta(s, len(s)+1))
		inPattern(t, "$$"+s+"$$"+s, many(s, 0), many(s, len(s)+2))
		inPattern(t, "$"+s+"$$"+s, meta(s, 0), many(s, len(s)+1))
		inPattern(t, "$$"+s+"$"+s, many(s, 0), meta(s, len(s)+2))
		inPattern(t, "x$"+s+";", name("x", 0), meta(s, 1), mark(";", len(s)+2))
		inPattern(t, "1$$"+s+"//$", integer("1", 0), many(s, 1))
		inPattern(t, "$"+s+`"$`+s+`"`, meta(s, 0), literal("$"+s, len(s)+1))
		inPattern(t, "if$"+s+"(", word("if", 0), meta(s, 2), mark("(", len(s)+3))
	}
	inPattern(t, "$x.y", meta("x", 0), mark(".", 2), name("y", 3))
	inPattern(t, "$x y", meta("x", 0), name("y", 3))
	inPattern(t, "$x if", meta("x", 0), word("if", 3))
	inPattern(t, "f($_, $$_);", name("f", 0), mark("(", 1), meta("_", 2), mark(",", 4), many("_", 6), mark(")", 9), mark(";", 10))
	inPattern(t, "$x // $\n$$y", meta("x", 0), many("y", 8))
}

func TestNoVariables(t *testing.T) { // P11.3
	for _, sign := range []string{"$", "$$"} {
		after := []string{"", " ", "\n", "\t", " x", "\nx", "0", "1x", "9", "0_", "$", "$x", "$$x", "$$", "(", "+", "==", "&&", ".x", "//", "//x\nx", `"x"`, "\\", "#", "\x00x", "\xffx", "-x", "1" + strings.Repeat("n", 24), "0" + strings.Repeat("n", 50)}
		for _, w := range strings.Fields(keywordList) {
			after = append(after, w, w+" ", w+"$", w+"(", w+"$x", w+".x")
		}
		for _, s := range after {
			if sign == "$" && strings.HasPrefix(s, "$") {
				continue // two dollar signs
			}
			noPattern(t, sign+s, 0, api.ErrSyntax)
			noPattern(t, "a b "+sign+s, 4, api.ErrSyntax)
			noPattern(t, "$x "+sign+s, 3, api.ErrSyntax)
			noPattern(t, "$$x,"+sign+s, 4, api.ErrSyntax)
			noPattern(t, "// $x\n "+sign+s, 7, api.ErrSyntax)
			noPattern(t, "x"+sign+s, 1, api.ErrSyntax)
		}
	}
	noPattern(t, "$x$", 2, api.ErrSyntax)
	noPattern(t, "$$$$$x", 0, api.ErrSyntax)
	noPattern(t, "$$$", 0, api.ErrSyntax)
}

func TestLongVariables(t *testing.T) { // P11.3
	for _, sign := range []string{"$", "$$"} {
		for _, s := range []string{strings.Repeat("n", 25), "_" + strings.Repeat("0", 24), strings.Repeat("if", 13), strings.Repeat("x", 500), "class" + strings.Repeat("y", 20)} {
			noPattern(t, sign+s, 0, api.ErrLong)
			noPattern(t, "f("+sign+s+")", 2, api.ErrLong)
			noPattern(t, sign+s+" #", 0, api.ErrLong)
			noPattern(t, "$x # "+sign+s, 3, api.ErrSyntax)
			noPattern(t, "$0 "+sign+s, 0, api.ErrSyntax)
		}
		noPattern(t, sign+"0"+strings.Repeat("n", 30), 0, api.ErrSyntax)
	}
	// The dollar signs do not count.
	inPattern(t, "$$"+strings.Repeat("n", 24)+";", many(strings.Repeat("n", 24), 0), mark(";", 26))
}

func TestManyVariables(t *testing.T) { // P11.3
	for _, x := range []string{"$x", "$$x"} {
		full := strings.Repeat(x, 600)
		if got := scan(full, true); got.err != api.OK || len(got.tokens) != 600 || !got.equal(scanOf(full, true)) {
			t.Errorf("600 times %s: %d tokens, %d at %d", x, len(got.tokens), got.err, got.at)
		}
		noPattern(t, full+x, len(full), api.ErrLong)
		noPattern(t, full+" "+x+"$", len(full)+1, api.ErrLong)
		compare(t, full+"a") // the name of the last one is xa
	}
}

func TestPatternsWithout(t *testing.T) { // P11.3
	for _, s := range append([]string{"", " ", "// $", `"$"`, "a // $x\nb", "class A { var n: int; }", "f(a.b, a.b)", `x = "$$x";`}, pieces...) {
		first, second := scan(s, false), scan(s, true)
		if first.err != api.OK || !first.equal(second) {
			t.Errorf("%q: %v, as a pattern %v", s, first, second)
		}
	}
}
