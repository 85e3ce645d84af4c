package syntax_test

import (
	"math/rand"
	"slices"
	"strings"
	"testing"

	"codesearch/api"
	"codesearch/syntax"
	"codesearch/token"
)

// moduleGrammar is the grammar of DOC.md.
const moduleGrammar = `
    module    = { "import" name ";" } { decl }
    decl      = class | interface | func | var
    class     = "class" name [ "extends" type ] [ "implements" type { "," type } ] "{" { func | var } "}"
    interface = "interface" name [ "extends" type { "," type } ] "{" { sig } "}"
    sig       = "func" name "(" [ param { "," param } ] ")" [ ":" type ] ";"
    func      = "func" name "(" [ param { "," param } ] ")" [ ":" type ] block
    param     = name ":" type
    var       = "var" name ":" type [ "=" expr ] ";"
    type      = name [ "." name ]
    block     = "{" { stmt } "}"
    stmt      = var | block | "return" [ expr ] ";" | "if" "(" expr ")" block [ "else" block ] | "while" "(" expr ")" block | expr [ "=" expr ] ";"
    expr      = and { "||" and }
    and       = equal { "&&" equal }
    equal     = less { ( "==" | "!=" ) less }
    less      = sum { ( "<" | ">" ) sum }
    sum       = product { ( "+" | "-" ) product }
    product   = unary { ( "*" | "/" | "%" ) unary }
    unary     = ( "!" | "-" ) unary | postfix
    postfix   = primary { "." name | "(" [ expr { "," expr } ] ")" }
    primary   = name | int | string | "true" | "false" | "null" | "this" | "new" type "(" [ expr { "," expr } ] ")" | "(" expr ")"
`

// fragmentGrammar is the same with metavariables, as the chapter describes them.
const fragmentGrammar = `
    decl      = class | interface | func | var
    class     = "class" name [ "extends" anytype ] [ "implements" super { "," super } ] "{" { func | var | hole } "}"
    interface = "interface" name [ "extends" super { "," super } ] "{" { sig | hole } "}"
    super     = anytype | many
    hole      = meta ";" | many ";"
    sig       = "func" name "(" [ param { "," param } ] ")" [ ":" anytype ] ";"
    func      = "func" name "(" [ param { "," param } ] ")" [ ":" anytype ] block
    param     = name ":" anytype | many
    var       = "var" name ":" anytype [ "=" expr ] ";"
    anytype   = type | meta
    type      = name [ "." name ]
    block     = "{" { stmt } "}"
    stmt      = hole | var | block | "return" [ expr ] ";" | "if" "(" expr ")" block [ "else" block ] | "while" "(" expr ")" block | expr [ "=" expr ] ";"
    expr      = and { "||" and }
    and       = equal { "&&" equal }
    equal     = less { ( "==" | "!=" ) less }
    less      = sum { ( "<" | ">" ) sum }
    sum       = product { ( "+" | "-" ) product }
    product   = unary { ( "*" | "/" | "%" ) unary }
    unary     = ( "!" | "-" ) unary | postfix
    postfix   = primary { "." name | "(" [ arg { "," arg } ] ")" }
    arg       = expr | many
    primary   = name | int | string | "true" | "false" | "null" | "this" | "new" type "(" [ arg { "," arg } ] ")" | "(" expr ")" | meta
`

// A rule says to which places a part of the grammar leads from a place in the tokens.
type rule func(r *reader, from int) []int

// A place is a part of the grammar and a place in the tokens.
type place struct {
	name string
	from int
}

// A reader follows a grammar in all ways at once.
type reader struct {
	rules  map[string]rule
	tokens []string
	known  map[place][]int
	most   int // the last token at which a token was looked for, after ones that fit
}

// grammar returns the rules of a grammar.
func grammar(source string) map[string]rule {
	rules := map[string]rule{}
	for _, line := range strings.Split(strings.TrimSpace(source), "\n") {
		name, right, _ := strings.Cut(line, " = ")
		words := strings.Fields(right)
		rules[strings.TrimSpace(name)] = alternatives(&words)
	}
	return rules
}

func alternatives(words *[]string) rule {
	l := []rule{sequence(words)}
	for len(*words) > 0 && (*words)[0] == "|" {
		*words = (*words)[1:]
		l = append(l, sequence(words))
	}
	return func(r *reader, from int) []int {
		var ends []int
		for _, alternative := range l {
			ends = united(ends, alternative(r, from))
		}
		return ends
	}
}

func sequence(words *[]string) rule {
	var l []rule
	for len(*words) > 0 && !strings.Contains("|)]}", (*words)[0]) {
		l = append(l, part(words))
	}
	return func(r *reader, from int) []int {
		at := []int{from}
		for _, part := range l {
			var next []int
			for _, from := range at {
				next = united(next, part(r, from))
			}
			at = next
		}
		return at
	}
}

// united returns the elements of two sets.
func united(a, b []int) []int {
	for _, n := range b {
		if !slices.Contains(a, n) {
			a = append(a, n)
		}
	}
	return a
}

func part(words *[]string) rule {
	word := (*words)[0]
	*words = (*words)[1:]
	switch word {
	case "(", "[", "{":
		inner := alternatives(words)
		*words = (*words)[1:]
		switch word {
		case "[":
			return func(r *reader, from int) []int { return united([]int{from}, inner(r, from)) }
		case "{":
			return func(r *reader, from int) []int { return repeated(r, inner, from) }
		}
		return inner
	case "name", "int", "string", "meta", "many":
		return terminal(word)
	}
	if strings.HasPrefix(word, `"`) {
		return terminal(strings.Trim(word, `"`))
	}
	return func(r *reader, from int) []int { return r.ends(word, from) }
}

func repeated(r *reader, inner rule, from int) []int {
	at := []int{from}
	for i := 0; i < len(at); i++ {
		at = united(at, inner(r, at[i]))
	}
	return at
}

func terminal(word string) rule {
	return func(r *reader, from int) []int {
		r.most = max(r.most, from)
		if from < len(r.tokens) && r.tokens[from] == word {
			return []int{from + 1}
		}
		return nil
	}
}

func (r *reader) ends(name string, from int) []int {
	ends, ok := r.known[place{name, from}]
	if !ok {
		ends = r.rules[name](r, from)
		r.known[place{name, from}] = ends
	}
	return ends
}

// firstWrong returns -1 if the tokens follow the rule with a name; otherwise the index of the first token after which nothing that follows it can go on, len(tokens) if this is none of them.
func firstWrong(rules map[string]rule, name string, tokens []string) int {
	r := &reader{rules: rules, tokens: tokens, known: map[place][]int{}}
	for _, end := range r.ends(name, 0) {
		if end == len(tokens) {
			return -1
		}
		r.most = max(r.most, end)
	}
	return r.most
}

// class returns the word of the grammar for a token.
func class(t api.Token) string {
	switch t.Kind {
	case api.TkName:
		return "name"
	case api.TkInt:
		return "int"
	case api.TkText:
		return "string"
	case api.TkMeta:
		return "meta"
	case api.TkMany:
		return "many"
	}
	return t.Text
}

// A judge compares what sources are read as with the grammars.
type judge struct {
	module, fragment map[string]rule
}

func newJudge() judge { return judge{grammar(moduleGrammar), grammar(fragmentGrammar)} }

// check compares the error of a source, which has tokens, with the one that the grammar says.
func (j judge) check(t *testing.T, what int, s string) {
	t.Helper()
	rules, goal, scan := j.fragment, "", token.ScanPattern
	switch what {
	case module:
		rules, goal, scan = j.module, "module", token.Scan
	case syntax.FragExpr:
		goal = "expr"
	case syntax.FragStmt:
		goal = "stmt"
	case syntax.FragDecl:
		goal = "decl"
	}
	tokens, at, err := scan(s)
	if err != api.OK {
		refuses(t, what, s, at, err)
		return
	}
	var words []string
	for _, token := range tokens {
		words = append(words, class(token))
	}
	switch wrong := firstWrong(rules, goal, words); {
	case wrong == -1:
		if _, at, err := parse(what, s); err != api.ErrLong && (at != 0 || err != api.OK) {
			t.Errorf("%q as %d: %d, %d", s, what, at, err)
		}
	case wrong == len(tokens):
		refuses(t, what, s, len(s), api.ErrSyntax)
	default:
		refuses(t, what, s, tokens[wrong].At, api.ErrSyntax)
	}
}

// allTokens are all keywords and marks, and tokens of the other kinds; some of them look like others.
var allTokens = append(strings.Fields("import class interface extends implements func var return if else while new true false null this { } ( ) ; , : . = == != < > + - * / % ! && || x _y 1 0"), `"s"`, `"("`, `"class"`, "$m", "$$m")

// sentences have every rule of the grammar with each of its optional parts present and absent, and each repeated part none, one and many times.
var sentences = map[int][]string{
	module: {
		"import a ; import b ; var x : int ;", "import a ; class A { }", "interface I { } func f ( ) { } class A { } var y : a . b ;",
		"class A extends B { }", "class A extends b . C implements D { }", "class A implements B , c . D , E { }", "class A { var n : int ; func f ( ) { } var m : int = 1 ; }",
		"interface I extends J { }", "interface I extends J , k . L , M { func f ( ) ; func g ( a : int ) : int ; }",
		"func f ( a : int , b : c . D , e : F ) : g . H { }", "var x : int = f ( ) ;",
		"func f ( ) { var x : int = 1 ; { } return ; return a ; if ( a ) { } if ( a ) { } else { } while ( a ) { } a = b ; f ( ) ; }",
	},
	syntax.FragExpr: {
		"a", "1", `"s"`, "true", "this . a . b", "f ( )", "f ( a )", "f ( a , b , c ) ( ) . d", "new A ( )", "new a . B ( c )", "new A ( a , b ) . c", "( a )", "( ( a ) )", "- ! - a . b", "a || b && c == d < e + f * g", "a * b + c < d == e && f || g", "( a + b ) * ( c - d )",
		"$X", "$X . a", "$X ( )", "f ( $X , $$A , 1 )", "f ( $$A )", "new A ( $$A , $X )", "- $X + $Y", "( $X )",
	},
	syntax.FragStmt: {
		"var x : int ;", "var x : a . b = 1 ;", "{ }", "{ { } a ; }", "return ;", "return a + b ;", "if ( a ) { } else { }", "if ( a ) { b ; }", "while ( ! a ) { }", "a = b ;", "f ( a ) ;", "a . b = c . d ;",
		"$S ;", "$$S ;", "$S = $T ;", "$S ( ) ;", "$S . a ;", "$S + 1 ;", "( $S ) ;", "{ $S ; $$T ; $U = 1 ; }", "var x : $T = $X ;", "return $X ;", "if ( $X ) { $$A ; } else { $B ; }",
	},
	syntax.FragDecl: {
		"class A { }", "class A extends $T implements $U , $$V , B { $M ; $$N ; func f ( ) { } }", "interface I { }", "interface I extends $T , $$U , a . B { $M ; func f ( ) ; $$N ; }", "interface I extends $$U { }", "class A implements $$U { }",
		"func f ( a : $T , $$P , b : int ) : $U { $S ; }", "func f ( $$P ) { }", "func f ( ) { $$S ; }", "var x : $T = $X ;", "var x : int ;",
	},
}

func TestEveryTokenAtEveryPlace(t *testing.T) { // P12.1, P12.2
	j := newJudge()
	for what, l := range sentences {
		for _, sentence := range l {
			if _, at, err := parse(what, sentence); at != 0 || err != api.OK {
				t.Errorf("%q as %d: %d, %d", sentence, what, at, err)
			}
			words := strings.Fields(sentence)
			for i := range len(words) + 1 {
				before := strings.Join(words[:i], " ") + " "
				j.check(t, what, before)
				j.check(t, what, before+"// x\n\t")
				for _, word := range allTokens {
					after := strings.Join(words[i:], "\n")
					j.check(t, what, before+word)
					j.check(t, what, before+word+" "+after)
					if _, rest, ok := strings.Cut(after, "\n"); ok {
						j.check(t, what, before+word+" "+rest)
					}
				}
				if i < len(words) {
					j.check(t, what, before+strings.Join(words[i+1:], " "))
				}
			}
		}
	}
}

func TestEverySentenceAsEverything(t *testing.T) { // P12.1, P12.2
	j := newJudge()
	for _, l := range sentences {
		for _, sentence := range l {
			for _, what := range []int{module, 1, 2, 3} {
				j.check(t, what, sentence)
				for _, other := range sentences[what] {
					j.check(t, what, sentence+" "+other)
					j.check(t, what, other+" "+sentence)
				}
			}
		}
	}
}

func TestShortSources(t *testing.T) { // P12.1, P12.2
	j := newJudge()
	for _, what := range []int{module, 1, 2, 3} {
		for _, a := range allTokens {
			j.check(t, what, a)
			for _, b := range allTokens {
				j.check(t, what, a+" "+b)
			}
		}
	}
	few := []string{"a ", "( ", ") ", ", ", "; ", ". ", "- ", "* ", "= ", "{ ", "} ", "$m ", "$$m ", "new "}
	var all func(s string, n int)
	all = func(s string, n int) {
		for _, what := range []int{syntax.FragExpr, syntax.FragStmt} {
			j.check(t, what, s)
		}
		for _, word := range few {
			if n > 0 {
				all(s+word, n-1)
			}
		}
	}
	all("", 3)
}

func TestMixedTokens(t *testing.T) { // P12.1, P12.2
	r := rand.New(rand.NewSource(12))
	j := newJudge()
	for what, l := range sentences {
		for range 3000 {
			words := strings.Fields(l[r.Intn(len(l))] + " " + l[r.Intn(len(l))])
			for range r.Intn(4) {
				i := r.Intn(len(words))
				switch r.Intn(3) {
				case 0:
					words[i] = allTokens[r.Intn(len(allTokens))]
				case 1:
					words = append(words[:i:i], words[min(len(words), i+1+r.Intn(len(words)-i)):]...)
				case 2:
					words = append(words[:i:i], append([]string{allTokens[r.Intn(len(allTokens))]}, words[i:]...)...)
				}
				if len(words) == 0 {
					break
				}
			}
			j.check(t, what, strings.Join(words, " "))
		}
	}
}

func TestTokensWithErrors(t *testing.T) { // P12.1, P12.2: the errors of token.Scan come first
	long := strings.Repeat("a", api.MaxName+1)
	for _, what := range []int{module, 1, 2, 3} {
		for _, before := range []string{"", "var x ", "a + ", "}} if ", "class A { "} {
			for wrong, err := range map[string]api.Errno{"&": api.ErrSyntax, `"a`: api.ErrSyntax, "007": api.ErrSyntax, "\x00": api.ErrSyntax, "\r": api.ErrSyntax, "#": api.ErrSyntax, "$": api.ErrSyntax, "$$": api.ErrSyntax, "$if": api.ErrSyntax, "$1": api.ErrSyntax, "1234567890": api.ErrLong, long: api.ErrLong, `"` + strings.Repeat("a", api.MaxPath+1) + `"`: api.ErrLong} {
				for _, after := range []string{"", " ;", " & }"} {
					refuses(t, what, before+wrong+after, len(before), err)
				}
			}
		}
		refuses(t, what, strings.Repeat(" ;", api.MaxTokens)+" ;", 2*api.MaxTokens+1, api.ErrLong)
		refuses(t, what, "a // x\n$$"+long, 7, map[bool]api.Errno{true: api.ErrSyntax, false: api.ErrLong}[what == module])
	}
	refuses(t, module, "var x: $T;", 7, api.ErrSyntax)
	refuses(t, module, "} } $T;", 4, api.ErrSyntax)
	refuses(t, module, "$$T;", 0, api.ErrSyntax)
	for _, what := range []int{0, 4, -1, -2, 5, 1 << 62, -1 << 63} {
		for _, s := range []string{"", "a", "$", "&", "x & }", strings.Repeat(";", 601), long} {
			if n, at, err := syntax.Fragment(what, s); err != api.ErrArg || at != 0 || !zero(n) {
				t.Errorf("%q as %d: %v, %d, %d", s, what, n, at, err)
			}
		}
	}
}

func TestManyTokens(t *testing.T) { // P12.1: all tokens that there can be
	s := strings.Repeat("import a;", 200)
	if n, at, err := syntax.Module(s); err != api.OK || at != 0 || len(n.Kids) != 200 || n.Kids[199].At != 199*9 || n.End != 1800 {
		t.Error(at, err)
	}
	refuses(t, module, s+"import", 1800, api.ErrLong)
	for _, name := range []string{"a", "_", strings.Repeat("z", api.MaxName)} {
		reads(t, module, "import "+name+";", "module(import:"+name+")")
	}
}
