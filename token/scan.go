package token

import (
	"strings"

	"codesearch/api"
)

// What a metavariable begins with.
const (
	metaSign = "$"
	manySign = "$$"
)

// scan returns the tokens of s as Scan does; first is told what is left of s, and returns the token at its beginning.
func scan(s string, first func(s string) api.Token) ([]api.Token, int, api.Errno) {
	// One map serves all tokens, as building it takes much longer than a look into it.
	known := keywords()
	var tokens []api.Token
	for rest := skipped(s); rest != ""; {
		t := first(rest)
		if t.Kind == api.TkName && known[t.Text] {
			t.Kind = api.TkWord
		}
		t.At = len(s) - len(rest)
		t.End += t.At
		err := fault(t, known)
		if err == api.OK && len(tokens) == api.MaxTokens {
			err = api.ErrLong
		}
		if err != api.OK {
			return nil, t.At, err
		}
		tokens = append(tokens, t)
		rest = skipped(s[t.End:])
	}
	return tokens, 0, api.OK
}

// skipped returns s without the blanks, tabs, line feeds and comments at its beginning.
func skipped(s string) string {
	for {
		s = strings.TrimLeft(s, " \t\n")
		if !strings.HasPrefix(s, "//") {
			return s
		}
		_, s, _ = strings.Cut(s, "\n")
	}
}

// ofSource returns the token at the beginning of s, which is not empty, with its length as its End. A keyword is still a TkName. If no token begins there, the result is one that fault does not accept.
func ofSource(s string) api.Token {
	switch c := s[0]; {
	case digit(c):
		return whole(api.TkInt, leading(s, digit))
	case wordByte(c):
		return whole(api.TkName, leading(s, wordByte))
	case c == '"':
		return literal(s)
	}
	return whole(api.TkMark, mark(s))
}

// ofPattern does the same for a pattern.
func ofPattern(s string) api.Token {
	switch {
	case strings.HasPrefix(s, manySign):
		return variable(api.TkMany, manySign, s)
	case strings.HasPrefix(s, metaSign):
		return variable(api.TkMeta, metaSign, s)
	}
	return ofSource(s)
}

// whole returns a token that is its Text.
func whole(kind int, text string) api.Token {
	return api.Token{Kind: kind, Text: text, End: len(text)}
}

// variable returns the metavariable at the beginning of s, which begins with its sign.
func variable(kind int, sign, s string) api.Token {
	name := leading(s[len(sign):], wordByte)
	return api.Token{Kind: kind, Text: name, End: len(sign) + len(name)}
}

// literal returns the literal at the beginning of s, which begins with a quotation mark; the zero token if the literal has no end.
func literal(s string) api.Token {
	var contents strings.Builder
	for rest := s[1:]; rest != ""; {
		if rest[0] == '"' {
			return api.Token{Kind: api.TkText, Text: contents.String(), End: len(s) - len(rest) + 1}
		}
		c, length := content(rest)
		if length == 0 {
			break
		}
		contents.WriteByte(c)
		rest = rest[length:]
	}
	return api.Token{}
}

// content returns the byte that the beginning of s, which is not empty, means within a literal, and how many bytes mean it: none if it means nothing there.
func content(s string) (byte, int) {
	switch {
	case strings.HasPrefix(s, `\"`):
		return '"', 2
	case strings.HasPrefix(s, `\\`):
		return '\\', 2
	case strings.HasPrefix(s, `\n`):
		return '\n', 2
	case s[0] != '\\' && visible(s[0]):
		return s[0], 1
	}
	return 0, 0
}

// mark returns the longest mark at the beginning of s, which is not empty; the first byte, which is none, if there is no mark.
func mark(s string) string {
	if len(s) >= 2 && isMark(s[:2]) {
		return s[:2]
	}
	return s[:1]
}

// leading returns the longest beginning of s in which there are only bytes for which in holds.
func leading(s string, in func(c byte) bool) string {
	for i := range len(s) {
		if !in(s[i]) {
			return s[:i]
		}
	}
	return s
}
