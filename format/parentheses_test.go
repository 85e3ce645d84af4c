package format_test

import (
	"math/rand"
	"testing"

	"codesearch/api"
	"codesearch/format"
	"codesearch/syntax"
)

var operators = []string{"||", "&&", "==", "!=", "<", ">", "+", "-", "*", "/", "%"}

// levels are those of the operators, in the same order.
var levels = []int{1, 2, 3, 3, 4, 4, 5, 5, 6, 6, 6}

// is wants an expression to have a canonical text, by itself and by the definition, from which no parentheses can be left out.
func is(t *testing.T, n api.Node, want string) {
	t.Helper()
	got, err := format.Fragment(n)
	if got != want || err != api.OK {
		t.Errorf("%s: %q, %d, not %q", written(n), got, err, want)
	}
	if byDefinition := canonical(syntax.FragExpr, written(n)); byDefinition != want {
		t.Errorf("%s is %q by the definition, not %q", written(n), byDefinition, want)
	}
	needed(t, want, n)
}

// needed wants every pair of parentheses of an expression to be needed.
func needed(t *testing.T, s string, n api.Node) { // P13.5, P13.7
	t.Helper()
	if again, _, err := syntax.Fragment(syntax.FragExpr, s); err != api.OK || !syntax.Same(again, n) {
		t.Errorf("%q has another tree than %q: %d", s, written(n), err)
	}
	tokens := tokensOf(s)
	for i, j := range partners(tokens) {
		if j < 0 {
			continue
		}
		open, shut := tokens[i], tokens[j]
		for _, blank := range []string{"", " "} {
			rest := s[:open.At] + blank + s[open.End:shut.At] + blank + s[shut.End:]
			if other, _, err := syntax.Fragment(syntax.FragExpr, rest); err == api.OK && syntax.Same(other, n) {
				t.Errorf("%q has the tree of %q", rest, s)
			}
		}
	}
}

func binary(operator string, a, b api.Node) api.Node { return node(api.NdBinary, operator, a, b) }

func TestOperators(t *testing.T) { // P13.1, P13.2, P13.5, P13.7: each in each other one, on both sides
	a, b, c, d := node(api.NdName, "a"), node(api.NdName, "b"), node(api.NdName, "c"), node(api.NdName, "d")
	for i, outer := range operators {
		is(t, binary(outer, a, b), "a "+outer+" b")
		for j, inner := range operators {
			in := "a " + inner + " b"
			if levels[j] < levels[i] {
				in = "(" + in + ")"
			}
			is(t, binary(outer, binary(inner, a, b), c), in+" "+outer+" c")
			in2 := "b " + inner + " c"
			if levels[j] <= levels[i] {
				in2 = "(" + in2 + ")"
			}
			is(t, binary(outer, a, binary(inner, b, c)), "a "+outer+" "+in2)
			in2 = "c " + inner + " d"
			if levels[j] <= levels[i] {
				in2 = "(" + in2 + ")"
			}
			is(t, binary(outer, binary(inner, a, b), binary(inner, c, d)), in+" "+outer+" "+in2)
		}
		for _, sign := range []string{"-", "!"} {
			is(t, binary(outer, node(api.NdUnary, sign, a), node(api.NdUnary, sign, b)), sign+"a "+outer+" "+sign+"b")
			is(t, node(api.NdUnary, sign, binary(outer, a, b)), sign+"(a "+outer+" b)")
			is(t, node(api.NdUnary, sign, node(api.NdUnary, sign, binary(outer, a, b))), sign+sign+"(a "+outer+" b)")
			is(t, binary(outer, node(api.NdUnary, sign, binary(outer, a, b)), c), sign+"(a "+outer+" b) "+outer+" c")
		}
		in := binary(outer, a, b)
		is(t, node(api.NdMember, "m", in), "(a "+outer+" b).m")
		is(t, node(api.NdCall, "", in), "(a "+outer+" b)()")
		is(t, node(api.NdCall, "", in, in, c), "(a "+outer+" b)(a "+outer+" b, c)")
		is(t, node(api.NdCall, "", c, in, in), "c(a "+outer+" b, a "+outer+" b)")
		is(t, node(api.NdNew, "A", in), "new A(a "+outer+" b)")
		is(t, node(api.NdNew, "a.B", c, in), "new a.B(c, a "+outer+" b)")
	}
	is(t, binary("-", a, binary("-", b, c)), "a - (b - c)")
	is(t, binary("-", binary("-", a, b), c), "a - b - c")
	is(t, binary("<", binary("<", a, b), c), "a < b < c")
	is(t, binary("<", a, binary("<", b, c)), "a < (b < c)")
	for _, wrong := range []string{"", "=", "!", ".", ",", "===", "<=", ">=", "&", "|", "+ ", " +", "++", "->", "(", "and", "a"} {
		refused(t, binary(wrong, a, b))
		if wrong != "!" {
			refused(t, node(api.NdUnary, wrong, a))
		}
	}
	for _, wrong := range operators {
		if wrong != "-" {
			refused(t, node(api.NdUnary, wrong, a))
		}
	}
}

func TestUnaryAndPostfix(t *testing.T) { // P13.1, P13.2, P13.5, P13.7
	// The expressions that need no parentheses in front of a point, arguments and operators.
	plain := map[string]api.Node{
		"a": node(api.NdName, "a"), "1": node(api.NdInt, "1"), "0": node(api.NdInt, "0"), `"s"`: node(api.NdText, "s"), `"\""`: node(api.NdText, "\""), "true": node(api.NdConst, "true"), "false": node(api.NdConst, "false"), "null": node(api.NdConst, "null"), "this": node(api.NdConst, "this"),
		"$X": node(api.NdMeta, "X"), "new A()": node(api.NdNew, "A"), "new a.B(1)": node(api.NdNew, "a.B", node(api.NdInt, "1")), "f()": node(api.NdCall, "", node(api.NdName, "f")), "f()(1)": node(api.NdCall, "", node(api.NdCall, "", node(api.NdName, "f")), node(api.NdInt, "1")),
		"a.b": node(api.NdMember, "b", node(api.NdName, "a")), "a.b.c": node(api.NdMember, "c", node(api.NdMember, "b", node(api.NdName, "a"))),
	}
	for s, n := range plain {
		is(t, n, s)
		is(t, node(api.NdMember, "m", n), s+".m")
		is(t, node(api.NdMember, "m", node(api.NdMember, "n", n)), s+".n.m")
		is(t, node(api.NdCall, "", n), s+"()")
		is(t, node(api.NdCall, "", n, n, n), s+"("+s+", "+s+")")
		is(t, node(api.NdCall, "", node(api.NdCall, "", n), n), s+"()("+s+")")
		is(t, node(api.NdNew, "T", n), "new T("+s+")")
		is(t, node(api.NdMember, "m", node(api.NdNew, "T", n, n)), "new T("+s+", "+s+").m")
		is(t, node(api.NdCall, "", node(api.NdMember, "m", n), node(api.NdMany, "M")), s+".m($$M)")
		for _, sign := range []string{"-", "!"} {
			unary := node(api.NdUnary, sign, n)
			is(t, unary, sign+s)
			is(t, node(api.NdMember, "m", unary), "("+sign+s+").m")
			is(t, node(api.NdUnary, sign, node(api.NdMember, "m", n)), sign+s+".m")
			is(t, node(api.NdCall, "", unary), "("+sign+s+")()")
			is(t, node(api.NdCall, "", unary, unary), "("+sign+s+")("+sign+s+")")
			is(t, node(api.NdUnary, sign, node(api.NdCall, "", n)), sign+s+"()")
			for _, other := range []string{"-", "!"} {
				is(t, node(api.NdUnary, other, unary), other+sign+s)
				is(t, node(api.NdUnary, sign, node(api.NdUnary, other, unary)), sign+other+sign+s)
				is(t, node(api.NdUnary, other, node(api.NdMember, "m", unary)), other+"("+sign+s+").m")
			}
			for _, operator := range operators {
				is(t, binary(operator, unary, n), sign+s+" "+operator+" "+s)
				is(t, binary(operator, n, unary), s+" "+operator+" "+sign+s)
			}
		}
	}
}

// grown returns expressions that have one of l, or two of them, as kids.
func grown(l []api.Node) []api.Node {
	grown := append([]api.Node{}, l...)
	for _, x := range l {
		grown = append(grown, node(api.NdMember, "m", x), node(api.NdCall, "", x), node(api.NdNew, "A", x), node(api.NdUnary, "-", x), node(api.NdUnary, "!", x))
		for _, y := range l {
			grown = append(grown, node(api.NdCall, "", x, y))
			for _, operator := range operators {
				grown = append(grown, binary(operator, x, y))
			}
		}
	}
	return grown
}

func TestSmallExpressions(t *testing.T) { // P13.2, P13.5, P13.7: all with up to three levels, and some with more
	small := grown(grown([]api.Node{node(api.NdName, "a")}))
	if len(small) < 3000 {
		t.Fatal(len(small))
	}
	for _, n := range small {
		is(t, n, canonical(syntax.FragExpr, written(n)))
	}
	r := rand.New(rand.NewSource(1))
	for range 3000 {
		l := []api.Node{small[r.Intn(len(small))], small[r.Intn(len(small))]}
		for _, n := range grown(l)[2:] {
			if r.Intn(12) == 0 {
				s, err := format.Fragment(n)
				if err != api.OK {
					t.Errorf("%s: %d", written(n), err)
				}
				needed(t, s, n)
			}
		}
	}
}

func TestMadeExpressions(t *testing.T) { // P13.2, P13.5, P13.7
	for seed := range 4000 {
		m := &maker{rand.New(rand.NewSource(int64(seed))), seed%2 == 0}
		n := m.expression(3 + seed%6)
		if s := written(n); len(tokensOf(s)) < 300 {
			text, err := format.Fragment(n)
			if err != api.OK {
				t.Errorf("%s: %d", s, err)
			}
			needed(t, text, n)
		}
	}
}
