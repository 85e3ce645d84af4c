package token_test

import (
	"slices"
	"strings"
	"testing"

	"codesearch/api"
	"codesearch/token"
)

// separators are what is between two tokens and no token.
var separators = []string{" ", "\t", "\n", "   ", " \t\n", "\n\n\t ", "//\n", "// \n", "//x\n", "///\n", "////\n", " // a b \" ( \\ $ # \n", "//\x00\xff\r\n", "//a\n//b\n", "\n//a\n\n\t//\n ", "//\t//\n//\n"}

// pieces are tokens of each kind, with what matters to Scan.
var pieces = append(append(strings.Fields(keywordList), strings.Fields(markList)...), "a", "_", "Z9", "classy", "iff", "_if", "If", "0", "7", "10", "999999999", `""`, `"a"`, `"//"`, `"\""`, `"\\"`, `"\n"`, `" "`, `"$x"`, `"a b"`)

// accepts wants these tokens of a string, from Scan and, as they are the same in a pattern, from ScanPattern.
func accepts(t *testing.T, s string, want ...api.Token) {
	t.Helper()
	for _, pattern := range []bool{false, true} {
		if got := scan(s, pattern); !got.equal(scanned{want, 0, api.OK}) {
			t.Errorf("%.200q, as a pattern %v: %v", s, pattern, got)
		}
	}
}

// refuses wants an error of a string, from Scan and ScanPattern.
func refuses(t *testing.T, s string, at int, err api.Errno) {
	t.Helper()
	for _, pattern := range []bool{false, true} {
		if got := scan(s, pattern); len(got.tokens) != 0 || got.at != at || got.err != err {
			t.Errorf("%.200q, as a pattern %v: %v, not %d at %d", s, pattern, got, err, at)
		}
	}
}

func TestNothing(t *testing.T) { // P11.2
	accepts(t, "")
	for _, s := range separators {
		accepts(t, s)
		accepts(t, s+s)
		accepts(t, strings.TrimSuffix(s, "\n"))
	}
	for c := range 256 {
		accepts(t, "//"+string([]byte{byte(c)}))
		accepts(t, "// "+string([]byte{byte(c)})+"\n")
	}
	for _, s := range short(4, []string{" ", "\t", "\n", "//", "//a\n"}) {
		accepts(t, s)
	}
}

func TestComments(t *testing.T) { // P11.2
	accepts(t, "a// b", name("a", 0))
	accepts(t, "a// b\nc", name("a", 0), name("c", 6))
	accepts(t, "a//\nc", name("a", 0), name("c", 4))
	accepts(t, "//a\nb//c\n//d\ne", name("b", 4), name("e", 13))
	accepts(t, "a/b//c\n/", name("a", 0), mark("/", 1), name("b", 2), mark("/", 7))
	accepts(t, "a / /b", name("a", 0), mark("/", 2), mark("/", 4), name("b", 5))
	accepts(t, "/ //", mark("/", 0))
	accepts(t, "/\n/", mark("/", 0), mark("/", 2))
	accepts(t, "/", mark("/", 0))
	accepts(t, "*//*", mark("*", 0))
	accepts(t, `"//"//"`, literal("//", 0))
	accepts(t, `//"`+"\n"+`"`+"a\"", literal("a", 4))
	accepts(t, "// x \\\ny", name("y", 7))
	accepts(t, "//\x00\x01\r\x7f\x80\xff\ny", name("y", 9))
	accepts(t, "// x\r// y")
	refuses(t, "// x\n\ry", 5, api.ErrSyntax)
	refuses(t, "a //\n #//", 6, api.ErrSyntax)
}

func TestMarks(t *testing.T) { // P11.2
	marks := strings.Fields(markList)
	if len(marks) != 21 {
		t.Fatalf("%d marks", len(marks))
	}
	for _, m := range marks {
		accepts(t, m, mark(m, 0))
		accepts(t, "a"+m, name("a", 0), mark(m, 1))
		accepts(t, m+"a", mark(m, 0), name("a", len(m)))
		accepts(t, " "+m+" ", mark(m, 1))
		for _, n := range marks {
			accepts(t, m+" "+n, mark(m, 0), mark(n, len(m)+1))
		}
	}
	accepts(t, "===", mark("==", 0), mark("=", 2))
	accepts(t, "====", mark("==", 0), mark("==", 2))
	accepts(t, "!==", mark("!=", 0), mark("=", 2))
	accepts(t, "!!=", mark("!", 0), mark("!=", 1))
	accepts(t, "=!", mark("=", 0), mark("!", 1))
	accepts(t, "!=!", mark("!=", 0), mark("!", 2))
	accepts(t, "<=>=", mark("<", 0), mark("=", 1), mark(">", 2), mark("=", 3))
	accepts(t, "&&&&", mark("&&", 0), mark("&&", 2))
	accepts(t, "&&||", mark("&&", 0), mark("||", 2))
	accepts(t, "++--**", mark("+", 0), mark("+", 1), mark("-", 2), mark("-", 3), mark("*", 4), mark("*", 5))
	accepts(t, "..::", mark(".", 0), mark(".", 1), mark(":", 2), mark(":", 3))
	refuses(t, "&", 0, api.ErrSyntax)
	refuses(t, "|", 0, api.ErrSyntax)
	refuses(t, "&&&", 2, api.ErrSyntax)
	refuses(t, "|||", 2, api.ErrSyntax)
	refuses(t, "& &", 0, api.ErrSyntax)
	refuses(t, "|\n|", 0, api.ErrSyntax)
	refuses(t, "&|", 0, api.ErrSyntax)
	refuses(t, "&=", 0, api.ErrSyntax)
	refuses(t, "||&", 2, api.ErrSyntax)
}

func TestWords(t *testing.T) { // P11.2
	for _, w := range strings.Fields(keywordList) {
		accepts(t, w, word(w, 0))
		accepts(t, w+" "+w, word(w, 0), word(w, len(w)+1))
		accepts(t, w+"("+w, word(w, 0), mark("(", len(w)), word(w, len(w)+1))
		for _, s := range []string{w + "y", w + "_", w + "0", "_" + w, "x" + w, strings.ToUpper(w), strings.ToUpper(w[:1]) + w[1:], w + w, w[1:], w[:len(w)-1]} {
			accepts(t, s, name(s, 0))
		}
		accepts(t, "0"+w, integer("0", 0), word(w, 1))
		accepts(t, w+`"`+w+`"`, word(w, 0), literal(w, len(w)))
	}
	for _, s := range []string{"a", "z", "A", "Z", "_", "__", "_0", "a0", "Z9_z", "a_b_c", "nULL", "int", "string", "bool", "void"} {
		accepts(t, s, name(s, 0))
	}
	for _, c := range "AZaz09_" {
		longest := "n" + strings.Repeat(string(c), 23)
		accepts(t, longest[:23], name(longest[:23], 0))
		accepts(t, longest, name(longest, 0))
		accepts(t, " "+longest+"+", name(longest, 1), mark("+", 25))
		refuses(t, longest+string(c), 0, api.ErrLong)
		refuses(t, longest+"x", 0, api.ErrLong)
		refuses(t, "b\n"+longest+"n1", 2, api.ErrLong)
		refuses(t, "("+strings.Repeat(longest, 50)+")", 1, api.ErrLong)
	}
	accepts(t, strings.Repeat("n", 24)+" n", name(strings.Repeat("n", 24), 0), name("n", 25))
	refuses(t, strings.Repeat("if", 13), 0, api.ErrLong)
}

func TestIntegers(t *testing.T) { // P11.2
	for _, s := range []string{"0", "1", "9", "10", "19", "90", "100", "12345678", "123456789", "999999999", "100000000"} {
		accepts(t, s, integer(s, 0))
		accepts(t, s+"a", integer(s, 0), name("a", len(s)))
		accepts(t, s+"_", integer(s, 0), name("_", len(s)))
		accepts(t, s+"if", integer(s, 0), word("if", len(s)))
		accepts(t, "-"+s+".", mark("-", 0), integer(s, 1), mark(".", len(s)+1))
		accepts(t, s+" "+s, integer(s, 0), integer(s, len(s)+1))
		accepts(t, "a"+s, name("a"+s, 0))
	}
	accepts(t, "0x1F", integer("0", 0), name("x1F", 1))
	accepts(t, "0 0", integer("0", 0), integer("0", 2))
	accepts(t, "1.5", integer("1", 0), mark(".", 1), integer("5", 2))
	accepts(t, "1_000", integer("1", 0), name("_000", 1))
	for _, s := range []string{"00", "07", "007", "01", "0123456789", "00000000000", "00a", "012345678", "0000000000000000000000000", "09", "00.5"} {
		refuses(t, s, 0, api.ErrSyntax)
		refuses(t, "x "+s, 2, api.ErrSyntax)
	}
	for _, s := range []string{"1234567890", "9999999999", "1000000000", "12345678901234567890", "1000000000a", "9" + strings.Repeat("0", 5000)} {
		refuses(t, s, 0, api.ErrLong)
		refuses(t, "x="+s, 2, api.ErrLong)
	}
}

func TestLiterals(t *testing.T) { // P11.2
	for s, contents := range map[string]string{
		`""`: "", `"a"`: "a", `" "`: " ", `"~"`: "~", `"\n"`: "\n", `"\\"`: `\`, `"\""`: `"`, `"\\n"`: `\n`, `"\\\n"`: "\\\n", `"\\\""`: `\"`, `"\\\\"`: `\\`, `"\"\""`: `""`,
		`"a\nb\\c\"d"`: "a\nb\\c\"d", `"n"`: "n", `"nn\nn"`: "nn\nn", `"'"`: "'", `"$x"`: "$x", `"//"`: "//", `"/*"`: "/*", `"if"`: "if", `"#&|"`: "#&|", `"\n\n"`: "\n\n", `"0"`: "0",
	} {
		accepts(t, s, api.Token{Kind: api.TkText, Text: contents, At: 0, End: len(s)})
		accepts(t, "a"+s+"b", name("a", 0), api.Token{Kind: api.TkText, Text: contents, At: 1, End: 1 + len(s)}, name("b", 1+len(s)))
		accepts(t, s+s, api.Token{Kind: api.TkText, Text: contents, At: 0, End: len(s)}, api.Token{Kind: api.TkText, Text: contents, At: len(s), End: 2 * len(s)})
		for i := 1; i < len(s); i++ {
			refuses(t, s[:i], 0, api.ErrSyntax)
		}
	}
	for _, s := range []string{`"`, `"a`, `"\`, `"\"`, `"\\\"`, `"a b c`, `"\a"`, `"\t"`, `"\N"`, `"\ "`, `"\0"`, `"\x"`, `"\'"`, `"\/"`, `"a\`, "\"\n\"", "\"a\nb\"", "\"\\\n\"", "\"\t\"", "\"\r\"", "\"a\x00\"", "\"\x1f\"", "\"\x7f\"", "\"\x80\"", "\"\xff\"", "\"\xc3\xa4\"", `"` + "\n" + `a"`} {
		refuses(t, s, 0, api.ErrSyntax)
		refuses(t, "("+s, 1, api.ErrSyntax)
		refuses(t, "x = "+s+" // end", 4, api.ErrSyntax)
	}
	refuses(t, `"""`, 2, api.ErrSyntax)
	refuses(t, `"a"b"`, 4, api.ErrSyntax)
	for c := range 256 {
		b := string([]byte{byte(c)})
		switch {
		case b == `"`:
			refuses(t, `"`+b+`"`, 2, api.ErrSyntax)
		case b == `\`:
			refuses(t, `"`+b+`"`, 0, api.ErrSyntax)
		case ' ' <= c && c <= '~':
			accepts(t, `"`+b+`"`, literal(b, 0))
		default:
			refuses(t, `"`+b+`"`, 0, api.ErrSyntax)
		}
		if !strings.Contains(`"\n`, b) {
			refuses(t, `"\`+b+`"`, 0, api.ErrSyntax)
		}
	}
}

func TestLongLiterals(t *testing.T) { // P11.2
	for source, means := range map[string]string{"s": "s", " ": " ", `\n`: "\n", `\\`: `\`, `\"`: `"`, "~": "~"} {
		for n := range 63 {
			s := `"` + strings.Repeat(source, n) + `"`
			if n > 60 {
				refuses(t, s, 0, api.ErrLong)
				refuses(t, s[:len(s)-1], 0, api.ErrSyntax)
				refuses(t, s[:len(s)-1]+"\n\"", 0, api.ErrSyntax)
				continue
			}
			accepts(t, s, api.Token{Kind: api.TkText, Text: strings.Repeat(means, n), At: 0, End: len(s)})
		}
		s := `"` + strings.Repeat("a", 59) + source + `"`
		accepts(t, s, api.Token{Kind: api.TkText, Text: strings.Repeat("a", 59) + means, At: 0, End: len(s)})
		s = `"` + source + strings.Repeat("a", 59) + `"`
		accepts(t, s, api.Token{Kind: api.TkText, Text: means + strings.Repeat("a", 59), At: 0, End: len(s)})
		refuses(t, `x "`+strings.Repeat("a", 60)+source+`"`, 2, api.ErrLong)
		refuses(t, `x "`+source+strings.Repeat("a", 60)+`"`, 2, api.ErrLong)
	}
	refuses(t, `"`+strings.Repeat("a", 61)+`\q"`, 0, api.ErrSyntax)
	refuses(t, `"`+strings.Repeat("a", 5000)+`"`, 0, api.ErrLong)
	refuses(t, `"`+strings.Repeat("a", 5000), 0, api.ErrSyntax)
}

func TestNoTokens(t *testing.T) { // P11.2
	skipped, letters, digits := " \t\n", "ABCDEFGHIJKLMNOPQRSTUVWXYZabcdefghijklmnopqrstuvwxyz_", "0123456789"
	for c := range 256 {
		b := string([]byte{byte(c)})
		switch {
		case strings.Contains(skipped, b):
			accepts(t, b)
			accepts(t, "a"+b+"b", name("a", 0), name("b", 2))
		case strings.Contains(letters, b):
			accepts(t, b, name(b, 0))
			accepts(t, "a"+b+"b", name("a"+b+"b", 0))
		case strings.Contains(digits, b):
			accepts(t, b, integer(b, 0))
			accepts(t, "a"+b+"b", name("a"+b+"b", 0))
		case slices.Contains(strings.Fields(markList), b):
			accepts(t, b, mark(b, 0))
			accepts(t, "a"+b+"b", name("a", 0), mark(b, 1), name("b", 2))
		default:
			// $x and $b are metavariables, but $ alone is nothing.
			refuses(t, b, 0, api.ErrSyntax)
			refuses(t, "a"+b+" b", 1, api.ErrSyntax)
			refuses(t, "1\n\t"+b+" // x", 3, api.ErrSyntax)
			refuses(t, " \n"+b+"\n\n", 2, api.ErrSyntax)
		}
	}
	for _, s := range []string{"$x", "$$x", "$", "$$", "$_", "a$"} {
		if got, at := scan(s, false), strings.Index(s, "$"); !got.equal(scanned{nil, at, api.ErrSyntax}) {
			t.Errorf("%q: %v", s, got)
		}
	}
}

func TestBytes(t *testing.T) { // P11.2, P11.3
	for c := range 256 {
		a := string([]byte{byte(c)})
		for _, s := range []string{a, a + a + a, "x " + a, "$x" + a, "$" + a, "$$" + a, "$$x" + a, `"` + a, `"` + a + `"`, `"\` + a + `"`, `"a\\` + a + `"`, "//" + a + "a\nb", "0" + a, "9" + a + "0", "if" + a, a + "if", "a" + a + "b", a + "\n" + a, "/" + a + "/", "\t" + a + "//"} {
			compare(t, s)
		}
		for d := range 256 {
			compare(t, a+string([]byte{byte(d)}))
		}
	}
}

func TestShort(t *testing.T) { // P11.2, P11.3
	for _, s := range short(4, strings.Split("a0=!&/\n\"\\ $", "")) {
		compare(t, s)
	}
	for _, s := range short(6, strings.Split("\"\\na\n", "")) {
		compare(t, `"`+s)
	}
	for _, s := range short(5, strings.Split("/\n a", "")) {
		compare(t, s)
		compare(t, "a"+s+"\"")
	}
	for _, s := range short(5, strings.Split("$_1i", "")) {
		compare(t, s)
	}
	for _, s := range short(5, strings.Split("=!&|", "")) {
		compare(t, s)
	}
	for _, s := range short(4, []string{"if", "0", "x", "_", "$", " ", "new"}) {
		compare(t, s)
	}
}

func TestMixed(t *testing.T) { // P11.2, P11.3
	all := append(append(slices.Clone(pieces), separators...), "$x", "$$y", "$_", "$$if0")
	wrong := append(slices.Clone(all), "#", "00", "\r", "&", "$", "$$", `"`, "\\", "\xff", strings.Repeat("n", 23), strings.Repeat("5", 9), `"`+strings.Repeat("s", 60)+`"`)
	for seed := range 300 {
		compare(t, mixed(seed, all, seed))
		compare(t, mixed(seed, pieces, seed))
		compare(t, mixed(seed/10, wrong, seed))
		compare(t, mixed(3*seed, []string{"a ", "(", "/ ", "\"x\"", "1 "}, seed))
	}
}

func TestBetween(t *testing.T) { // P11.2
	for _, a := range pieces {
		for _, b := range pieces {
			for _, s := range separators {
				if a == "/" && strings.HasPrefix(s, "/") {
					continue // the mark would be a part of the comment
				}
				first, second := scanOf(a, false).tokens[0], scanOf(b, false).tokens[0]
				second.At += len(a + s)
				second.End += len(a + s)
				accepts(t, a+s+b, first, second)
			}
			compare(t, a+b)
		}
	}
}

func TestCounts(t *testing.T) { // P11.2
	for _, x := range []string{"a", "if", "0", `""`, "(", "==", `"\n"`} {
		for _, separator := range []string{" ", "\n", "//;\n"} {
			full := strings.Repeat(x+separator, 600)
			for _, s := range []string{full, full + " ", full + "// end", full + "\n\t// end\n", strings.Repeat(x+separator, 599)} {
				compare(t, s)
				if got := scan(s, false); got.err != api.OK || len(got.tokens) != strings.Count(s, x) {
					t.Errorf("%d times %q: %d tokens, %d", strings.Count(s, x), x, len(got.tokens), got.err)
				}
			}
			refuses(t, full+x, len(full), api.ErrLong)
			refuses(t, full+"// end\n"+x, len(full)+7, api.ErrLong)
			refuses(t, full+x+" #", len(full), api.ErrLong)
			refuses(t, full+full, len(full), api.ErrLong)
			refuses(t, full+strings.Repeat("n", 25), len(full), api.ErrLong)
			for _, wrong := range []string{"#", "00", `"`, `"\q"`, "&", "$", "\r", "\x00", "0000000000", `"` + strings.Repeat("n", 61)} {
				refuses(t, full+wrong, len(full), api.ErrSyntax)
			}
			refuses(t, "00 "+full+x, 0, api.ErrSyntax)
			refuses(t, "1234567890 "+full+"#", 0, api.ErrLong)
		}
	}
	refuses(t, strings.Repeat("(", 601), 600, api.ErrLong)
}

func TestFirstError(t *testing.T) { // P11.2
	long, digits, text := strings.Repeat("n", 25), "1234567890", `"`+strings.Repeat("s", 61)+`"`
	refuses(t, "# "+long, 0, api.ErrSyntax)
	refuses(t, long+" #", 0, api.ErrLong)
	refuses(t, digits+" 00", 0, api.ErrLong)
	refuses(t, "00 "+digits, 0, api.ErrSyntax)
	refuses(t, text+` "`, 0, api.ErrLong)
	refuses(t, `a "`+text, 4, api.ErrLong)  // an empty literal, and a name of 61 bytes
	refuses(t, `a " `+text, 5, api.ErrLong) // a blank in a literal, and the name
	refuses(t, "a b c "+long, 6, api.ErrLong)
	refuses(t, "a(1, \"x\") // #\n"+digits+"#", 15, api.ErrLong)
	refuses(t, "\n\n\t a\n\t#", 7, api.ErrSyntax)
	refuses(t, "// #\n// \"\n&", 10, api.ErrSyntax)
	refuses(t, "a\x80", 1, api.ErrSyntax)
	refuses(t, "\xc3\xa4", 0, api.ErrSyntax)
	refuses(t, "a\x0b", 1, api.ErrSyntax)
	refuses(t, "a\x0c", 1, api.ErrSyntax)
}

func TestLong(t *testing.T) { // P11.2, P11.3
	const n = 1000000
	for _, s := range []string{" ", "\t", "\n", "// a\n", "//\n \t"} {
		accepts(t, strings.Repeat(s, n/len(s)))
		accepts(t, strings.Repeat(s, n/len(s))+"a", name("a", n/len(s)*len(s)))
		refuses(t, strings.Repeat(s, n/len(s))+"#", n/len(s)*len(s), api.ErrSyntax)
	}
	accepts(t, strings.Repeat("/", n))
	refuses(t, strings.Repeat("n", n), 0, api.ErrLong)
	refuses(t, strings.Repeat("1", n), 0, api.ErrLong)
	refuses(t, strings.Repeat("0", n), 0, api.ErrSyntax)
	refuses(t, strings.Repeat("$", n), 0, api.ErrSyntax)
	refuses(t, `"`+strings.Repeat("n", n), 0, api.ErrSyntax)
	refuses(t, `"`+strings.Repeat("n", n)+`"`, 0, api.ErrLong)
	refuses(t, `"`+strings.Repeat(`\`, n)+`"`, 0, api.ErrLong)
	refuses(t, `"`+strings.Repeat(`\`, n+1)+`"`, 0, api.ErrSyntax)
	refuses(t, strings.Repeat("a ", n), 1200, api.ErrLong)
	refuses(t, strings.Repeat(`"`, n), 1200, api.ErrLong)
	if got := scan("$"+strings.Repeat("n", n), true); !got.equal(scanned{nil, 0, api.ErrLong}) {
		t.Errorf("a very long metavariable: %d, %d", got.at, got.err)
	}
}

func TestNewMemory(t *testing.T) { // the common rules
	for _, pattern := range []bool{false, true} {
		first := scan("a + b", pattern)
		second := scan("a + b", pattern)
		for i := range first.tokens {
			first.tokens[i] = api.Token{Kind: 9}
		}
		if !second.equal(scanOf("a + b", pattern)) || !scan("a + b", pattern).equal(second) {
			t.Error("the results share memory")
		}
	}
	if l, at, err := token.Scan("a #"); len(l) != 0 || at != 2 || err != api.ErrSyntax {
		t.Errorf("an error: %v, %d, %d", l, at, err)
	}
}
