package token_test

import (
	"math"
	"regexp"
	"slices"
	"strings"
	"testing"

	"codesearch/api"
	"codesearch/token"
)

// The texts of tokens as a whole, written for the library's regular expressions.
var (
	nameText    = regexp.MustCompile(`^[A-Za-z_][A-Za-z_0-9]{0,23}$`)
	integerText = regexp.MustCompile(`^(?:0|[1-9][0-9]{0,8})$`)
	literalText = regexp.MustCompile(`^[\n -~]{0,60}$`)
)

// isToken follows the definitions of the tokens.
func isToken(x api.Token) bool {
	switch x.Kind {
	case 1, 6, 7:
		return nameText.MatchString(x.Text) && !keyword(x.Text)
	case 2:
		return keyword(x.Text)
	case 3:
		return integerText.MatchString(x.Text)
	case 4:
		return literalText.MatchString(x.Text)
	case 5:
		return slices.Contains(strings.Fields(markList), x.Text)
	}
	return false
}

// printOf follows P11.4.
func printOf(l []api.Token) (string, api.Errno) {
	printed := ""
	for i, x := range l {
		if !isToken(x) {
			return "", api.ErrArg
		}
		if i > 0 {
			printed += " "
		}
		switch x.Kind {
		case 4:
			s := strings.ReplaceAll(x.Text, `\`, `\\`)
			s = strings.ReplaceAll(s, `"`, `\"`)
			printed += `"` + strings.ReplaceAll(s, "\n", `\n`) + `"`
		case 6:
			printed += "$" + x.Text
		case 7:
			printed += "$$" + x.Text
		default:
			printed += x.Text
		}
	}
	return printed, api.OK
}

// comparePrint compares what Print returns with its definition.
func comparePrint(t *testing.T, l ...api.Token) {
	t.Helper()
	s, err := token.Print(l)
	want, wantErr := printOf(l)
	if s != want || err != wantErr {
		t.Fatalf("Print(%v) is %q, %d, not %q, %d", l, s, err, want, wantErr)
	}
}

func TestPrintNamed(t *testing.T) { // P11.4
	for _, x := range []struct {
		l    []api.Token
		want string
	}{
		{nil, ""},
		{[]api.Token{}, ""},
		{[]api.Token{name("a", 0)}, "a"},
		{[]api.Token{name(strings.Repeat("n", 24), 0)}, strings.Repeat("n", 24)},
		{[]api.Token{word("implements", 0)}, "implements"},
		{[]api.Token{integer("0", 0)}, "0"},
		{[]api.Token{integer("999999999", 0)}, "999999999"},
		{[]api.Token{literal("", 0)}, `""`},
		{[]api.Token{literal(" ", 0)}, `" "`},
		{[]api.Token{literal("a b", 0)}, `"a b"`},
		{[]api.Token{literal("\"", 0)}, `"\""`},
		{[]api.Token{literal("\\", 0)}, `"\\"`},
		{[]api.Token{literal("\n", 0)}, `"\n"`},
		{[]api.Token{literal(`\n`, 0)}, `"\\n"`},
		{[]api.Token{literal("\"\\\n\"\\\n", 0)}, `"\"\\\n\"\\\n"`},
		{[]api.Token{literal(strings.Repeat("\n", 60), 0)}, `"` + strings.Repeat(`\n`, 60) + `"`},
		{[]api.Token{literal("$x // n", 0)}, `"$x // n"`},
		{[]api.Token{mark("&&", 0)}, "&&"},
		{[]api.Token{meta("X", 0)}, "$X"},
		{[]api.Token{meta("_", 0)}, "$_"},
		{[]api.Token{many("X", 0)}, "$$X"},
		{[]api.Token{many(strings.Repeat("n", 24), 0)}, "$$" + strings.Repeat("n", 24)},
		{[]api.Token{name("a", 0), name("a", 0)}, "a a"},
		{[]api.Token{mark("=", 0), mark("=", 0), mark("==", 0)}, "= = =="},
		{[]api.Token{literal("", 0), literal("", 0)}, `"" ""`},
		{[]api.Token{name("f", 0), mark("(", 0), meta("x", 0), mark(",", 0), many("y", 0), mark(")", 0), mark(";", 0)}, "f ( $x , $$y ) ;"},
		{[]api.Token{word("if", 0), integer("1", 0), literal("a", 0), name("if_", 0)}, `if 1 "a" if_`},
	} {
		if s, err := token.Print(x.l); s != x.want || err != api.OK {
			t.Errorf("Print(%v) is %q, %d", x.l, s, err)
		}
	}
}

func TestPrintNoTokens(t *testing.T) { // P11.4
	longName, longInteger, longText := strings.Repeat("n", 25), "1234567890", strings.Repeat("s", 61)
	for kind, texts := range map[int][]string{
		api.TkName: {"", "1", "1a", "if", "this", "a b", " a", "a ", "a.b", "$a", "a\n", "\"a\"", "+", "\xff", "a\x00", "a-b", "\u00e4", longName, "9" + longName},
		api.TkWord: {"", "a", "If", "IF", "if ", " if", "iff", "i", "0", "(", "\"if\"", "import class", "string", longName},
		api.TkInt:  {"", "00", "01", "007", "a", "1a", "a1", "-1", "+1", "1 ", " 1", "1.0", "0x1", "1_0", "\xb2", longInteger, "0000000000", strings.Repeat("0", 9)},
		api.TkText: {"\t", "\r", "\x00", "\x1f", "\x7f", "\x80", "\xff", "\u00e4", "a\tb", "a\x00", longText, strings.Repeat("\n", 61), longText + "\t"},
		api.TkMark: {"", "&", "|", "===", "<=", ">=", "!==", "++", "()", "( ", " (", "a", "[", "]", "#", "$", "$$", "\"", "\\", "//", "'", "?", "@", "^", "~", "`", "&|", "&&&", "\n", "0", "if", "\x00"},
		api.TkMeta: {"", "1", "1a", "if", "new", "$x", "$", "x y", "x$", " x", "x\n", "+", "\xff", longName, longName + "1"},
		api.TkMany: {"", "0", "0a", "else", "null", "$x", "$$x", "x y", "x$$", " x", "x\t", "(", "\x80", longName},
	} {
		for _, text := range texts {
			x := api.Token{Kind: kind, Text: text, At: 1, End: 1 + len(text)}
			for _, l := range [][]api.Token{{x}, {x, x}, {x, name("a", 0)}, {name("a", 0), x}, {name("a", 0), x, name("b", 0)}, {x, {}}} {
				if s, err := token.Print(l); s != "" || err != api.ErrArg {
					t.Errorf("Print(%v) is %q, %d", l, s, err)
				}
			}
		}
	}
	l := append(slices.Repeat([]api.Token{name("a", 0)}, 1000), integer("00", 0))
	if s, err := token.Print(l); s != "" || err != api.ErrArg {
		t.Errorf("the last one of many: %q, %d", s, err)
	}
}

func TestPrintKinds(t *testing.T) { // P11.4
	texts := append([]string{"a", "if", "0", "1", "", "\"", "=", "==", "&", "x1", "_", "$", "00", "\n", " ", "\t"}, strings.Fields(keywordList+" "+markList)...)
	for _, kind := range []int{math.MinInt, -257, -256, -255, -7, -1, 0, 1, 2, 3, 4, 5, 6, 7, 8, 9, 10, 15, 255, 256, 257, 258, 65537, 1<<32 + 1, 1<<32 + 4, math.MaxInt} {
		for _, text := range texts {
			comparePrint(t, api.Token{Kind: kind, Text: text})
		}
		if s, err := token.Print([]api.Token{{Kind: kind, Text: "a"}}); (kind < 1 || kind > 7) && (s != "" || err != api.ErrArg) {
			t.Errorf("kind %d: %q, %d", kind, s, err)
		}
	}
}

func TestPrintLengths(t *testing.T) { // P11.4
	for kind, most := range map[int]int{api.TkName: 24, api.TkInt: 9, api.TkText: 60, api.TkMeta: 24, api.TkMany: 24} {
		c := "n"
		if kind == api.TkInt {
			c = "7"
		}
		for n := range 70 {
			x := api.Token{Kind: kind, Text: strings.Repeat(c, n)}
			comparePrint(t, x)
			least := 1
			if kind == api.TkText {
				least = 0
			}
			if s, err := token.Print([]api.Token{x}); (err == api.OK) != (least <= n && n <= most) || err == api.OK && !strings.Contains(s, x.Text) {
				t.Errorf("%d bytes of the kind %d: %q, %d", n, kind, s, err)
			}
		}
	}
}

func TestPrintTexts(t *testing.T) { // P11.4
	var texts []string
	for c := range 256 {
		b := string([]byte{byte(c)})
		texts = append(texts, b, b+b, b+"a", "a"+b, "a"+b+"a", "0"+b, b+"0", "1"+b, "="+b, "if"+b, b+"if", strings.Repeat("s", 59)+b, b+strings.Repeat("s", 60))
		for d := range 256 {
			texts = append(texts, b+string([]byte{byte(d)}))
		}
	}
	texts = append(texts, short(4, strings.Split("a0_\"\\\n $", ""))...)
	for _, text := range texts {
		for kind := range 9 {
			comparePrint(t, api.Token{Kind: kind, Text: text, At: kind})
		}
	}
}

func TestPrintPositions(t *testing.T) { // P11.4
	l := []api.Token{name("a", 0), word("if", 0), integer("1", 0), literal("s", 0), mark("==", 0), meta("x", 0), many("y", 0)}
	for _, n := range []int{math.MinInt, -1, 0, 1, 5, 1 << 40, math.MaxInt} {
		for _, end := range []int{math.MinInt, -1, 0, 1, math.MaxInt} {
			moved := slices.Clone(l)
			for i := range moved {
				moved[i].At, moved[i].End = n, end
			}
			given := slices.Clone(moved)
			if s, err := token.Print(given); s != `a if 1 "s" == $x $$y` || err != api.OK {
				t.Errorf("at %d to %d: %q, %d", n, end, s, err)
			}
			if !slices.Equal(given, moved) {
				t.Errorf("the list became %v", given)
			}
		}
	}
}

func TestPrintMany(t *testing.T) { // P11.4
	for _, n := range []int{599, 600, 601, 1000} {
		comparePrint(t, slices.Repeat([]api.Token{literal("a\n", 0)}, n)...)
		comparePrint(t, slices.Repeat([]api.Token{mark("/", 0), meta("x", 0)}, n)...)
	}
	const n = 1000000
	want := strings.Repeat("n ", n)
	if s, err := token.Print(slices.Repeat([]api.Token{name("n", 0)}, n)); s != want[:2*n-1] || err != api.OK {
		t.Errorf("a million names: %d bytes, %d", len(s), err)
	}
	if s, err := token.Print([]api.Token{{Kind: api.TkText, Text: strings.Repeat("n", n)}}); s != "" || err != api.ErrArg {
		t.Errorf("a million bytes: %d, %d", len(s), err)
	}
}
