package token

import (
	"strings"

	"codesearch/api"
)

const maxDigits = 9 // of an integer

// fault returns the error of a token whose Kind and Text may be any: ErrSyntax if there is no such kind, or the text does not have its form; ErrLong if it is too long. It is given the keywords.
func fault(t api.Token, known map[string]bool) api.Errno {
	switch {
	case !formed(t, known):
		return api.ErrSyntax
	case len(t.Text) > longest(t.Kind):
		return api.ErrLong
	}
	return api.OK
}

// formed reports whether the text of a token, however long, has the form of its kind.
func formed(t api.Token, known map[string]bool) bool {
	switch t.Kind {
	case api.TkName, api.TkMeta, api.TkMany:
		return t.Text != "" && !digit(t.Text[0]) && each(t.Text, wordByte) && !known[t.Text]
	case api.TkWord:
		return known[t.Text]
	case api.TkInt:
		return t.Text == "0" || t.Text != "" && t.Text[0] != '0' && each(t.Text, digit)
	case api.TkText:
		return each(t.Text, contentByte)
	case api.TkMark:
		return isMark(t.Text)
	}
	return false
}

// longest returns how many bytes the text of a kind has at most.
func longest(kind int) int {
	switch kind {
	case api.TkInt:
		return maxDigits
	case api.TkText:
		return api.MaxPath
	}
	// No keyword and no mark is as long as a name can be.
	return api.MaxName
}

func isMark(s string) bool {
	switch s {
	case "{", "}", "(", ")", ";", ",", ":", ".", "=", "==", "!=", "<", ">", "+", "-", "*", "/", "%", "!", "&&", "||":
		return true
	}
	return false
}

// each reports whether in holds for each byte of s.
func each(s string, in func(c byte) bool) bool { return len(leading(s, in)) == len(s) }

func digit(c byte) bool { return '0' <= c && c <= '9' }

func wordByte(c byte) bool {
	return 'a' <= c && c <= 'z' || 'A' <= c && c <= 'Z' || c == '_' || digit(c)
}

// visible reports whether a byte other than a quotation mark and a backslash means itself in a literal.
func visible(c byte) bool { return ' ' <= c && c <= '~' }

// contentByte reports whether a byte can be in the contents of a literal.
func contentByte(c byte) bool { return c == '\n' || visible(c) }

// printed returns a token as Print writes it.
func printed(t api.Token) string {
	switch t.Kind {
	case api.TkText:
		return quoted(t.Text)
	case api.TkMeta:
		return metaSign + t.Text
	case api.TkMany:
		return manySign + t.Text
	}
	return t.Text
}

// quoted returns the literal that has the contents s.
func quoted(s string) string {
	var source strings.Builder
	source.WriteByte('"')
	for i := range len(s) {
		source.WriteString(written(s[i]))
	}
	source.WriteByte('"')
	return source.String()
}

// written returns what means a byte within a literal.
func written(c byte) string {
	switch c {
	case '"':
		return `\"`
	case '\\':
		return `\\`
	case '\n':
		return `\n`
	}
	return string(c)
}
