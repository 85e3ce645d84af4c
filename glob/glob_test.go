package glob_test

import (
	"regexp"
	"strings"
	"testing"

	"codesearch/api"
	"codesearch/glob"
)

// strs returns all strings of at most n of the bytes of alphabet.
func strs(alphabet string, n int) []string {
	all := []string{""}
	for from := 0; n > 0; n-- {
		to := len(all)
		for _, s := range all[from:to] {
			for i := range len(alphabet) {
				all = append(all, s+alphabet[i:i+1])
			}
		}
		from = to
	}
	return all
}

func repeat(s string, n int) string { return strings.Repeat(s, n) }

func TestLimits(t *testing.T) { // the limits that the chapter names
	if api.MaxPath != 60 || api.MaxName != 24 || api.MaxGlob != 60 {
		t.Fatalf("the limits are %d, %d, %d", api.MaxPath, api.MaxName, api.MaxGlob)
	}
}

func TestValidPath(t *testing.T) { // P2.1
	for _, x := range []struct {
		p    string
		want bool
	}{
		{"a", true},
		{"Z", true},
		{"9", true},
		{"_", true},
		{"-", true},
		{"src/a.b.go", true},
		{"a/b/c/d/e", true},
		{"-/_/0", true},
		// dots
		{"...", true},
		{"....", true},
		{".a", true},
		{"a.", true},
		{"a..b", true},
		{"..a", true},
		{"a..", true},
		{".-", true},
		{"a/.x/y.", true},
		{"a/.../b", true},
		{".", false},
		{"..", false},
		{"./a", false},
		{"../a", false},
		{"a/.", false},
		{"a/..", false},
		{"a/./b", false},
		{"a/../b", false},
		// slashes
		{"", false},
		{"/", false},
		{"//", false},
		{"/a", false},
		{"a/", false},
		{"a//b", false},
		{"a/b//", false},
		{"a/b/", false},
		{"//a", false},
		// names of MaxName bytes and of one more, in each place
		{repeat("n", 24), true},
		{repeat("n", 25), false},
		{repeat(".", 24), true},
		{repeat(".", 25), false},
		{repeat("n", 24) + "/" + repeat("m", 24), true},
		{repeat("n", 25) + "/a", false},
		{"a/" + repeat("n", 25), false},
		{"a/" + repeat("n", 25) + "/b", false},
		{"a/" + repeat("n", 24) + "/b", true},
		// paths of MaxPath bytes and of one more
		{repeat("abcd/", 11) + "abcd", true},
		{repeat("abcd/", 11) + "abcde", true},
		{repeat("abcd/", 11) + "abcdef", false},
		{repeat("abcd/", 12), false},
		{repeat("abcd/", 12) + "a", false},
		{repeat("n", 24) + "/" + repeat("n", 24) + "/" + repeat("n", 10), true},
		{repeat("n", 24) + "/" + repeat("n", 24) + "/" + repeat("n", 11), false},
		{repeat("a/", 29) + "aa", true},
		{repeat("a/", 30) + "a", false},
		{repeat("a/", 1<<20) + "a", false},
		{repeat("a", 60), false},
		{repeat("a", 1<<20), false},
		// bytes that no name has
		{"a b", false},
		{"a*", false},
		{"a\n", false},
		{"a\x00", false},
		{"\u00e9", false},
		{"a/\xff", false},
		{"a\\b", false},
	} {
		if got := glob.ValidPath(x.p); got != x.want {
			t.Errorf("ValidPath(%.70q) of %d bytes is %v", x.p, len(x.p), got)
		}
	}
}

func TestNameBytes(t *testing.T) { // P2.1
	const letters = "ABCDEFGHIJKLMNOPQRSTUVWXYZabcdefghijklmnopqrstuvwxyz"
	for c := range 256 {
		b := string([]byte{byte(c)})
		inName := strings.Contains(letters+"0123456789._-", b)
		for _, x := range []struct {
			p    string
			want bool
		}{
			{b, inName && b != "."},
			{b + "xy", inName},
			{"x" + b + "y", inName || b == "/"},
			{"xy" + b, inName},
			{"d/" + b + "x", inName},
			{"d" + b + "/x", inName},
		} {
			if got := glob.ValidPath(x.p); got != x.want {
				t.Errorf("ValidPath(%q) is %v", x.p, got)
			}
		}
	}
}

// TestPathsOfAllShortStrings follows the definition: a path is names, with one slash between each two of them.
func TestPathsOfAllShortStrings(t *testing.T) { // P2.1
	isName := map[string]bool{}
	for _, s := range strs("a.", 7) {
		isName[s] = s != "" && s != "." && s != ".."
	}
	for _, s := range strs("a./ ", 7) {
		want := true
		for rest, more := s, true; more; {
			name := ""
			name, rest, more = strings.Cut(rest, "/")
			want = want && isName[name]
		}
		if got := glob.ValidPath(s); got != want {
			t.Fatalf("ValidPath(%q) is %v", s, got)
		}
	}
}

func TestBaseDirExt(t *testing.T) { // P2.1
	long := repeat("x.y/", 100000)
	for _, x := range []struct{ p, base, dir, ext string }{
		{"src/a.b.go", "a.b.go", "src", "go"},
		{"", "", "", ""},
		{"a", "a", "", ""},
		{"a.b", "a.b", "", "b"},
		{"/", "", "", ""},
		{"//", "", "/", ""},
		{"/a", "a", "", ""},
		{"a/", "", "a", ""},
		{"a.b/", "", "a.b", ""},
		{"a/b", "b", "a", ""},
		{"a/b/c.", "c.", "a/b", ""},
		{"a//b", "b", "a/", ""},
		{"/a/b.c", "b.c", "/a", "c"},
		{"a.b/c", "c", "a.b", ""},
		{"a/.x", ".x", "a", "x"},
		{".", ".", "", ""},
		{"..", "..", "", ""},
		{".x", ".x", "", "x"},
		{"..x", "..x", "", "x"},
		{"x..", "x..", "", ""},
		{"a..b", "a..b", "", "b"},
		{"a/.", ".", "a", ""},
		{"a.B-c_0", "a.B-c_0", "", "B-c_0"},
		{"\xff/\x80.\xc3", "\x80.\xc3", "\xff", "\xc3"},
		{"\n/ . ", " . ", "\n", " "},
		{"a\\b.c", "a\\b.c", "", "c"},
		{long, "", long[:len(long)-1], ""},
		{long + "a.b", "a.b", long[:len(long)-1], "b"},
	} {
		if b, d, e := glob.Base(x.p), glob.Dir(x.p), glob.Ext(x.p); b != x.base || d != x.dir || e != x.ext {
			t.Errorf("%.70q: Base %.70q, Dir %.70q, Ext %.70q", x.p, b, d, e)
		}
	}
}

func TestUnder(t *testing.T) { // P2.1
	for _, x := range []struct {
		p, dir string
		want   bool
	}{
		{"a/b", "a", true},
		{"a/b/c", "a", true},
		{"a/b/c", "a/b", true},
		{"a/b/c", "a/b/c", false},
		{"a/b/c", "a/b/", false},
		{"a/b/c", "b", false},
		{"a/b/c", "/a", false},
		{"ab/c", "a", false},
		{"ab", "a", false},
		{"a", "a", false},
		{"a", "a/b", false},
		{"a/", "a", true},
		{"a//b", "a", true},
		{"a//b", "a/", true},
		{"/", "", true},
		{"/a", "/", false},
		{"//a", "/", true},
		{"", "", true},
		{"a", "", true},
		{"a/b", "", true},
		{"", "a", false},
		{"", "/", false},
		{"/", "/", false},
		{"A/b", "a", false},
		{"\xff/b", "\xff", true},
		{"a*/b", "a*", true},
		{"ab/c", "a*", false},
		{repeat("a/", 1<<20), repeat("a/", 1<<20), false},
		{repeat("a/", 1<<20), repeat("a/", 1<<20)[:1<<20-1], true},
	} {
		if got := glob.Under(x.p, x.dir); got != x.want {
			t.Errorf("Under(%.70q, %.70q) is %v", x.p, x.dir, got)
		}
	}
}

func TestTakingApart(t *testing.T) { // P2.5, and P2.1 for all short strings
	for _, s := range strs("a./\xff", 7) {
		base, dir, ext := glob.Base(s), glob.Dir(s), glob.Ext(s)
		if strings.Contains(s, "/") {
			if dir+"/"+base != s || !glob.Under(s, dir) {
				t.Fatalf("%q: Dir %q, Base %q, Under %v", s, dir, base, glob.Under(s, dir))
			}
		} else if base != s || dir != "" {
			t.Fatalf("%q: Dir %q, Base %q", s, dir, base)
		}
		if strings.Contains(base, "/") {
			t.Fatalf("Base(%q) is %q", s, base)
		}
		if strings.Contains(base, ".") && !strings.HasSuffix(base, "."+ext) || strings.Contains(ext, ".") || !strings.Contains(base, ".") && ext != "" {
			t.Fatalf("Ext(%q) is %q", s, ext)
		}
	}
}

func TestUnderOfAllShortStrings(t *testing.T) { // P2.1, P2.5
	all := strs("a/b", 4)
	for _, p := range all {
		for _, dir := range all {
			want := dir == "" || strings.HasPrefix(p, dir+"/")
			if got := glob.Under(p, dir); got != want {
				t.Fatalf("Under(%q, %q) is %v", p, dir, got)
			}
		}
	}
}

func TestRight(t *testing.T) { // P2.2
	for _, x := range []struct {
		g    string
		want api.Errno
	}{
		{"", api.OK},
		{"a", api.OK},
		{"src/*.go", api.OK},
		{"/", api.OK},
		{"//a/", api.OK},
		{"!a-z^", api.OK}, // outside of a set these are ordinary bytes
		{"-", api.OK},
		{"\\", api.OK},
		// asterisks
		{"*", api.OK},
		{"**", api.OK},
		{"***", api.ErrForm},
		{"****", api.ErrForm},
		{"*****", api.ErrForm},
		{"a**b*", api.OK},
		{"a***b", api.ErrForm},
		{"**a***", api.ErrForm},
		{"**?**", api.OK},
		{"**/**/**", api.OK},
		{"**[*]**", api.OK},
		{"**[***]**", api.OK},
		{"[*]", api.OK},
		{"[**]", api.OK},
		{"[***]", api.OK},
		{"[****]", api.OK},
		{"[!***]", api.OK},
		{"[a]***", api.ErrForm},
		{"***[a]", api.ErrForm},
		{"[***]***", api.ErrForm},
		// sets
		{"[a]", api.OK},
		{"[ab][c]", api.OK},
		{"[", api.ErrForm},
		{"[a", api.ErrForm},
		{"[!", api.ErrForm},
		{"[!a", api.ErrForm},
		{"a[", api.ErrForm},
		{"[a][", api.ErrForm},
		{"[a][b", api.ErrForm},
		{"[]", api.ErrForm},
		{"[]a", api.ErrForm},
		{"[]]", api.ErrForm},
		{"[]a]", api.ErrForm},
		{"[]-]", api.ErrForm},
		{"[!]", api.ErrForm},
		{"[!]a]", api.ErrForm},
		{"[!]]", api.ErrForm},
		{"[[]", api.OK},
		{"[a[b]", api.OK},
		{"[[[]", api.OK},
		{"[[]]", api.ErrForm},
		{"[a]]", api.ErrForm},
		{"[!!]", api.OK},
		{"[a!]", api.OK},
		{"[?]", api.OK},
		{"[/]", api.OK},
		{"[\\]", api.OK},
		{"[\\]]", api.ErrForm},
		{"]", api.ErrForm},
		{"a]", api.ErrForm},
		{"]a", api.ErrForm},
		{"]a[", api.ErrForm},
		// hyphens and ranges
		{"[-]", api.OK},
		{"[--]", api.OK},
		{"[---]", api.OK},
		{"[----]", api.OK},
		{"[-----]", api.OK},
		{"[a-]", api.OK},
		{"[-a]", api.OK},
		{"[a-z]", api.OK},
		{"[a-a]", api.OK},
		{"[z-a]", api.ErrForm},
		{"[b-a]", api.ErrForm},
		{"[!b-a]", api.ErrForm},
		{"[a-cb-a]", api.ErrForm},
		{"[xb-a]", api.ErrForm},
		{"[a-c-a]", api.OK},  // a to c, the hyphen, a
		{"[a-c--]", api.OK},  // a to c, two hyphens
		{"[a-c---]", api.OK}, // a to c, the hyphen to itself
		{"[a-c--a]", api.OK}, // a to c, the hyphen to a
		{"[a--]", api.ErrForm},
		{"[+--]", api.OK},
		{"[.--]", api.ErrForm},
		{"[--a]", api.OK},
		{"[--+]", api.ErrForm},
		{"[---+]", api.OK}, // the hyphen to itself, +
		{"[-z-a]", api.ErrForm},
		{"[!-a]", api.OK}, // not the hyphen, not a
		{"[!-!]", api.OK},
		{"[!--!]", api.ErrForm},
		{"[a-!]", api.ErrForm},
		{"[!a-!]", api.ErrForm},
		{"[!!-a]", api.OK},
		{"[a-[]", api.ErrForm},
		{"[A-[]", api.OK},
		{"[[-a]", api.OK},
		{"[[-A]", api.ErrForm},
		{"[.-0]", api.OK},
		{"[/-/]", api.OK},
		{"[!-~]", api.OK},
		{"[~-!]", api.ErrForm},
		{"[*-?]", api.OK},
		{"[a-]-z]", api.ErrForm}, // the set ends at the first ]
		// bytes
		{" ", api.ErrForm},
		{"a b", api.ErrForm},
		{"[ ]", api.ErrForm},
		{"[a ]", api.ErrForm},
		{"a\t", api.ErrForm},
		{"a\n", api.ErrForm},
		{"\x7f", api.ErrForm},
		{"[\x7f]", api.ErrForm},
		{"\x00", api.ErrForm},
		{"\u00e9", api.ErrForm},
		{"[\xff]", api.ErrForm},
		{"!~", api.OK},
		// lengths, and several errors in one pattern
		{repeat("a", 59), api.OK},
		{repeat("a", 60), api.OK},
		{repeat("a", 61), api.ErrLong},
		{repeat("*a", 30), api.OK},
		{repeat("**a", 20), api.OK},
		{repeat("**a", 20) + "a", api.ErrLong},
		{"[" + repeat("a", 58) + "]", api.OK},
		{"[" + repeat("a", 59) + "]", api.ErrLong},
		{repeat("*", 60), api.ErrForm},
		{repeat("*", 61), api.ErrLong},
		{repeat("]", 60), api.ErrForm},
		{repeat("]", 61), api.ErrLong},
		{repeat("[", 60), api.ErrForm},
		{repeat("[", 61), api.ErrLong},
		{repeat(" ", 60), api.ErrForm},
		{repeat(" ", 61), api.ErrLong},
		{repeat("\xff", 61), api.ErrLong},
		{repeat("a", 58) + "[]", api.ErrForm},
		{repeat("a", 59) + "[]", api.ErrLong},
		{repeat("a", 55) + "[z-a]", api.ErrForm},
		{repeat("a", 56) + "[z-a]", api.ErrLong},
		{repeat("[z-a", 1<<20), api.ErrLong},
		{" ***]", api.ErrForm},
		{"[z-a", api.ErrForm},
		{"[]***", api.ErrForm},
	} {
		if got := glob.Right(x.g); got != x.want {
			t.Errorf("Right(%.70q) of %d bytes is %d, not %d", x.g, len(x.g), got, x.want)
		}
	}
}

func TestPatternBytes(t *testing.T) { // P2.2
	for c := range 256 {
		b := string([]byte{byte(c)})
		printable := c >= 33 && c <= 126
		for _, x := range []struct {
			g    string
			form bool
		}{
			{b, printable && b != "[" && b != "]"},
			{"a" + b + "a", printable && b != "[" && b != "]"},
			{"[" + b + "]", printable && b != "!" && b != "]"},
			{"[a" + b + "]", printable && b != "]"},
			{"[!" + b + "]", printable && b != "]"},
			{"[" + b + "-~]", printable && b != "]"},
			{"[!!-" + b + "]", printable && b != "]"},
		} {
			want := api.ErrForm
			if x.form {
				want = api.OK
			}
			if got := glob.Right(x.g); got != want {
				t.Errorf("Right(%q) is %d, not %d", x.g, got, want)
			}
		}
	}
}

var (
	oneSet   = regexp.MustCompile(`\[(?:!([^\]]+)|([^!\]][^\]]*))\]`)
	oneRange = regexp.MustCompile(`(.)-(.)`)
)

// right follows the wording of P2.2 for patterns that are short and printable.
func right(g string) api.Errno {
	for _, set := range oneSet.FindAllStringSubmatch(g, -1) {
		for _, r := range oneRange.FindAllStringSubmatch(set[1]+set[2], -1) {
			if r[2] < r[1] {
				return api.ErrForm
			}
		}
	}
	// Without its sets, a pattern has no bracket.
	g = oneSet.ReplaceAllString(g, "s")
	if strings.ContainsAny(g, "[]") || strings.Contains(g, "***") {
		return api.ErrForm
	}
	return api.OK
}

// setBytes returns the bytes that a set matches, from the bytes between its brackets.
func setBytes(inside string) [256]bool {
	var has, all [256]bool
	negated := inside[0] == '!'
	if negated {
		inside = inside[1:]
	}
	for _, r := range oneRange.FindAllString(inside, -1) {
		for c := int(r[0]); c <= int(r[2]); c++ {
			has[c] = true
		}
	}
	for _, c := range []byte(oneRange.ReplaceAllString(inside, "")) {
		has[c] = true
	}
	for c := range 256 {
		all[c] = has[c] != negated && c != '/'
	}
	return all
}

// match follows the definitions of the elements of a pattern that is right, by trying every length.
func match(g, p string) bool {
	if g == "" {
		return p == ""
	}
	if strings.HasPrefix(g, "*") {
		rest, deep := strings.CutPrefix(g, "**")
		if !deep {
			rest = g[1:]
		}
		for i := range len(p) + 1 {
			if match(rest, p[i:]) {
				return true
			}
			if !deep && strings.HasPrefix(p[i:], "/") {
				return false
			}
		}
		return false
	}
	if p == "" {
		return false
	}
	switch g[0] {
	case '?':
		return p[0] != '/' && match(g[1:], p[1:])
	case '[':
		end := strings.IndexByte(g, ']')
		return setBytes(g[1:end])[p[0]] && match(g[end+1:], p[1:])
	}
	return g[0] == p[0] && match(g[1:], p[1:])
}

func TestMatch(t *testing.T) { // P2.3
	for _, x := range []struct {
		g, p string
		want bool
	}{
		{"", "", true},
		{"", "a", false},
		{"a", "", false},
		{"a", "a", true},
		{"a", "A", false},
		{"A", "a", false},
		{"a", "aa", false},
		{"aa", "a", false},
		{"a/b", "a/b", true},
		{"a/b", "a/b/", false},
		{"/a/", "/a/", true},
		{"a//b", "a//b", true},
		{"a//b", "a/b", false},
		{"a.b", "axb", false},
		{"\\*", "*", false},
		{"\\*", "\\x", true},
		{"!a", "!a", true},
		{"!a", "b", false},
		{"a-c", "b", false},
		// asterisks
		{"*", "", true},
		{"*", "a.b", true},
		{"*", "a/b", false},
		{"*", "/", false},
		{"*", " \n\xff\x00", true},
		{"**", "", true},
		{"**", "/", true},
		{"**", "a/b//\n\xff", true},
		{"src/*.go", "src/x.go", true},
		{"src/*.go", "src/.go", true},
		{"src/*.go", "src/y/x.go", false},
		{"src/*.go", "src/x.goo", false},
		{"**.go", "src/y/x.go", true},
		{"**.go", ".go", true},
		{"src/**/x", "src/a/b/x", true},
		{"src/**/x", "src/x", false},
		{"src/**/x", "src//x", true},
		{"src/**x", "src/x", true},
		{"src/**", "src/", true},
		{"src/**", "src", false},
		{"*/b", "/b", true},
		{"*/b", "a/b", true},
		{"*/b", "a/a/b", false},
		{"*/*", "a/b", true},
		{"*/*", "/", true},
		{"*/*", "a/b/c", false},
		{"*/**", "a/b/c", true},
		{"**/*", "a/b/c", true},
		{"**/*", "a", false},
		{"a*b*c", "aXbYbZc", true},
		{"a*b*c", "aXbYbZ", false},
		{"a*b*c", "acb", false},
		{"*a*", "/a", false},
		{"*ab", "aab", true},
		{"*aab", "aaab", true},
		{"a**a", "a", false},
		{"a**a", "aa", true},
		{"a**a", "a/a", true},
		{"***", "a", false},
		{"***", "", false},
		{"***", "***", false},
		{"a***b", "ab", false},
		{"****", "****", false},
		// one byte
		{"?", "", false},
		{"?", "a", true},
		{"?", "?", true},
		{"?", "/", false},
		{"?", "aa", false},
		{"??", "a", false},
		{"??", "ab", true},
		{"?", "\xff", true},
		{"?", "\n", true},
		{"?", "\u00e9", false}, // two bytes
		{"??", "\u00e9", true},
		{"a?c", "abc", true},
		{"a?c", "a/c", false},
		// sets
		{"[a-c]?", "b1", true},
		{"[a-c]?", "d1", false},
		{"[a-c]", "a", true},
		{"[a-c]", "c", true},
		{"[a-c]", "-", false},
		{"[a-c]", "`", false},
		{"[a-c]", "", false},
		{"[a-c]", "bb", false},
		{"[b-b]", "b", true},
		{"[b-b]", "-", false},
		{"[abc]", "b", true},
		{"[abc]", "d", false},
		{"[!a-c]", "-", true},
		{"[!a-c]", "b", false},
		{"[!a-c]", "!", true},
		{"[!a-c]", "", false},
		{"[!a-c]", "\xff", true},
		{"[!a]", "/", false},
		{"[!a]", "\x00", true},
		{"[!!]", "!", false},
		{"[!!]", "a", true},
		{"[a!]", "!", true},
		{"[!a!]", "!", false},
		{"[!a!]", "b", true},
		{"[a/]", "/", false},
		{"[a/]", "a", true},
		{"[/]", "/", false},
		{"[!/]", "/", false},
		{"[!/]", "a", true},
		{"[.-0]", "/", false},
		{"[.-0]", "0", true},
		{"[!.-0]", "/", false},
		{"[!.-0]", "1", true},
		{"[a-]", "-", true},
		{"[a-]", "a", true},
		{"[a-]", "b", false},
		{"[-a]", "-", true},
		{"[-a]", "a", true},
		{"[-a]", "A", false},
		{"[--a]", "A", true},
		{"[--a]", "b", false},
		{"[+--]", ",", true},
		{"[+--]", ".", false},
		{"[---]", "-", true},
		{"[!-a]", "-", false},
		{"[!-a]", "a", false},
		{"[!-a]", "A", true}, // no range from ! to a
		{"[a-c-e]", "-", true},
		{"[a-c-e]", "d", false},
		{"[a-c-e]", "e", true},
		{"[a-ce-g]", "f", true},
		{"[a-ce-g]", "d", false},
		{"[[]", "[", true},
		{"[a[b]", "[", true},
		{"[A-[]", "Z", true},
		{"[***]", "*", true},
		{"[***]", "a", false},
		{"[?]", "?", true},
		{"[?]", "a", false},
		{"[A-Z]", "a", false},
		{"[a-z]*[0-9]", "ax/9", false},
		{"[a-z]*[0-9]", "ax09", true},
		{"*[!a]", "aab", true},
		{"*[!a]", "aba", false},
		{"**[!a]", "a/", false},
		// what is not right matches nothing
		{"[]-]", "-", false},
		{"[]-]", "[]-]", false},
		{"[", "[", false},
		{"]", "]", false},
		{"[a", "[a", false},
		{"[z-a]", "b", false},
		{"a b", "a b", false},
		{"\xff", "\xff", false},
		{repeat("a", 60), repeat("a", 60), true},
		{repeat("a", 60), repeat("a", 59), false},
		{repeat("a", 60), repeat("a", 61), false},
		{repeat("a", 61), repeat("a", 61), false},
		{repeat("a", 58) + "**", repeat("a", 58) + "/b", true},
		{repeat("a", 59) + "**", repeat("a", 59) + "/b", false},
		{"[" + repeat("a", 57) + "b]", "b", true},
		{"[" + repeat("a", 58) + "b]", "b", false},
	} {
		if got := glob.Match(x.g, x.p); got != x.want {
			t.Errorf("Match(%q, %q) is %v", x.g, x.p, got)
		}
	}
}

func TestAllShortPatterns(t *testing.T) { // P2.2, P2.3, P2.6
	paths := strs("a-!/*", 3)
	for _, g := range strs("ab-[]!*?/", 5) {
		want := right(g)
		if got := glob.Right(g); got != want {
			t.Fatalf("Right(%q) is %d, not %d", g, got, want)
		}
		if want != api.OK && glob.Match(g, g) {
			t.Fatalf("%q, which is not right, matches itself", g)
		}
		for _, p := range paths {
			got := glob.Match(g, p)
			if want := want == api.OK && match(g, p); got != want {
				t.Fatalf("Match(%q, %q) is %v", g, p, got)
			}
			if got && !strings.HasPrefix(p, glob.Prefix(g)) {
				t.Fatalf("%q matches %q, which does not begin with %q", g, p, glob.Prefix(g))
			}
		}
	}
}

func TestManyAsterisks(t *testing.T) { // P2.3
	paths := strs("ab/", 5)
	for _, g := range strs("*a/", 7) {
		ok := right(g) == api.OK
		for _, p := range paths {
			if got := glob.Match(g, p); got != (ok && match(g, p)) {
				t.Fatalf("Match(%q, %q) is %v", g, p, got)
			}
		}
	}
}

func TestAllShortSets(t *testing.T) { // P2.2, P2.3
	for _, inside := range strs("-!ac[/0", 5) {
		g := "[" + inside + "]"
		ok := right(g) == api.OK
		if got := glob.Right(g) == api.OK; got != ok {
			t.Fatalf("Right(%q) is OK: %v", g, got)
		}
		if !ok {
			continue
		}
		has := setBytes(inside)
		for _, c := range []byte("\x00\n !\"*+,-./01?@ABZ[\\]^_`abcd~\x7f\x80\xc3\xff") {
			if got := glob.Match(g, string([]byte{c})); got != has[c] {
				t.Fatalf("Match(%q, %q) is %v", g, c, got)
			}
		}
	}
}

func TestEveryByteOfSets(t *testing.T) { // P2.3
	for _, g := range []string{"[a-f]", "[!a-f]", "[!-/]", "[!!-/]", "[!-~]", "[!!-~]", "[.-0x-zA-Z-]", "[--~]", "?", "[!/]", "[+--]"} {
		for c := range 256 {
			p := string([]byte{byte(c)})
			if got := glob.Match(g, p); got != match(g, p) {
				t.Errorf("Match(%q, %q) is %v", g, p, got)
			}
		}
	}
}

func TestPrefix(t *testing.T) { // P2.4
	for _, x := range []struct{ g, want string }{
		{"", ""},
		{"abc", "abc"},
		{"src/*.go", "src/"},
		{"src/**", "src/"},
		{"*", ""},
		{"**a", ""},
		{"a?", "a"},
		{"?a", ""},
		{"[a]", ""},
		{"ab[a]c*", "ab"},
		{"a?b*c[d]", "a"},
		{"a[b]c?d*", "a"},
		{"/a/*", "/a/"},
		{"a!-/.b*", "a!-/.b"},
		// what is no pattern has a prefix, too
		{"a]b", "a]b"},
		{"a]b[", "a]b"},
		{"a***", "a"},
		{"a b\xff\n?", "a b\xff\n"},
		{"\xff\u00e9", "\xff\u00e9"},
		{repeat("a", 61), repeat("a", 61)},
		{repeat("a", 61) + "[" + repeat("b", 61), repeat("a", 61)},
	} {
		if got := glob.Prefix(x.g); got != x.want {
			t.Errorf("Prefix(%q) is %q, not %q", x.g, got, x.want)
		}
	}
	for c := range 256 {
		b := string([]byte{byte(c)})
		want := "x" + b + "y"
		if b == "*" || b == "?" || b == "[" {
			want = "x"
		}
		if got := glob.Prefix("x" + b + "y"); got != want {
			t.Errorf("Prefix(%q) is %q", "x"+b+"y", got)
		}
	}
}

func TestPatternsWithoutWildcards(t *testing.T) { // P2.6
	paths := strs("a-!/.]", 4)
	for _, g := range strs("a-!/.]", 3) {
		if glob.Right(g) != api.OK {
			continue
		}
		for _, p := range paths {
			if got := glob.Match(g, p); got != (g == p) {
				t.Fatalf("Match(%q, %q) is %v", g, p, got)
			}
		}
		if glob.Prefix(g) != g {
			t.Fatalf("Prefix(%q) is %q", g, glob.Prefix(g))
		}
	}
}

func TestConcatenation(t *testing.T) { // P2.7
	paths := strs("ab/", 3)
	matched := map[string][]string{}
	for _, g := range append(strs("a*?/", 3), "[a]", "[!a]", "[a-b]*", "*[b]", "**[/a]") {
		for _, p := range paths {
			if glob.Match(g, p) {
				matched[g] = append(matched[g], p)
			}
		}
	}
	joined := 0
	for g, ps := range matched {
		for h, qs := range matched {
			if glob.Right(g+h) != api.OK {
				continue
			}
			for _, p := range ps {
				for _, q := range qs {
					joined++
					if !glob.Match(g+h, p+q) {
						t.Fatalf("%q matches %q, %q matches %q, but not together", g, p, h, q)
					}
				}
			}
		}
	}
	if joined < 100000 {
		t.Errorf("only %d cases", joined)
	}
}

func TestEverything(t *testing.T) { // P2.8
	all := append(strs("a/.\n\xff", 5), repeat("a/", 1<<19), repeat("a", 1<<20), "\u00e9/\x00")
	for _, p := range all {
		if !glob.Match("**", p) {
			t.Fatalf("** does not match %.70q", p)
		}
		if got := glob.Match("*", p); got == strings.Contains(p, "/") {
			t.Fatalf("Match(*, %.70q) is %v", p, got)
		}
	}
}

// TestManyWays fails by its time if the lengths of what each asterisk matches are tried one after the other.
func TestManyWays(t *testing.T) { // P2.3
	const n = 20000
	for _, x := range []struct {
		g, p string
		want bool
	}{
		{repeat("*a", 30), repeat("a", n), true},
		{repeat("*a", 30), repeat("a", n) + "b", false},
		{repeat("*a", 30), repeat("a", 29), false},
		{repeat("*a", 30), repeat("a", 30), true},
		{repeat("**a", 20), repeat("/a", n), true},
		{repeat("**a", 20), repeat("/a", n) + "/", false},
		{repeat("**/", 20), repeat("a/", n), true},
		{repeat("*/", 30), repeat("a/", 30), true},
		{repeat("*/", 30), repeat("a/", 31), false},
		{repeat("*?", 30), repeat("a", n), true},
		{repeat("*?", 30), repeat("a", 29), false},
		{repeat("*[a]", 15), repeat("a", n) + "b", false},
	} {
		if got := glob.Match(x.g, x.p); got != x.want {
			t.Errorf("Match(%q, %.20q of %d bytes) is %v", x.g, x.p, len(x.p), got)
		}
	}
}
