// Package text: documents as lines and words (layer 1; shared/doc/01-text.md).
package text

import (
	"strings"

	"codesearch/api"
)

// Valid reports whether s is a document's text: at most MaxText bytes, each of which is 9, 10, or from 32 to 126.
func Valid(s string) bool {
	if len(s) > api.MaxText {
		return false
	}
	for i := range len(s) {
		if !textByte(s[i]) {
			return false
		}
	}
	return true
}

func textByte(c byte) bool {
	return c == '\t' || c == '\n' || ' ' <= c && c <= '~'
}

// eachLine calls visit with the range of each line of s, in order, without the line feed that may end it.
func eachLine(s string, visit func(line api.Span)) {
	for at := 0; at < len(s); {
		end := len(s)
		if n := strings.IndexByte(s[at:], '\n'); n >= 0 {
			end = at + n
		}
		visit(api.Span{At: at, End: end})
		at = end + 1
	}
}

// Lines returns the lines of s: the pieces between line feeds. A line feed at the end begins no line; the empty string has no lines.
func Lines(s string) []string {
	var lines []string
	eachLine(s, func(line api.Span) {
		lines = append(lines, s[line.At:line.End])
	})
	return lines
}

// Starts returns the offsets at which the lines of s begin.
func Starts(s string) []int {
	var starts []int
	eachLine(s, func(line api.Span) {
		starts = append(starts, line.At)
	})
	return starts
}

// At returns the position of the byte at an offset of s, and true; false unless the offset is from 0 to len(s) - 1. A line feed belongs to the line that it ends.
func At(s string, off int) (api.Pos, bool) {
	if off < 0 || off >= len(s) {
		return api.Pos{}, false
	}
	before := s[:off]
	line := strings.Count(before, "\n") + 1
	start := strings.LastIndexByte(before, '\n') + 1
	return api.Pos{Line: line, Col: off - start + 1}, true
}

// Off returns the offset of the byte at a position of s, and true; false if there is no such byte.
func Off(s string, p api.Pos) (int, bool) {
	starts := Starts(s)
	if p.Line < 1 || p.Line > len(starts) {
		return 0, false
	}
	start, end := starts[p.Line-1], len(s)
	if p.Line < len(starts) {
		end = starts[p.Line]
	}
	if p.Col < 1 || p.Col > end-start {
		return 0, false
	}
	return start + p.Col - 1, true
}

// Fold returns s with the letters A to Z replaced by a to z.
func Fold(s string) string {
	// strings.ToLower is no substitute: it changes letters beyond A to Z, and bytes that are not UTF-8.
	folded := []byte(s)
	for i, c := range folded {
		if 'A' <= c && c <= 'Z' {
			folded[i] = c + ('a' - 'A')
		}
	}
	return string(folded)
}

// Words returns the words of s, in order: the maximal sequences of letters, digits and underscores.
func Words(s string) []api.Span {
	var words []api.Span
	for at := 0; at < len(s); at++ {
		end := at
		for end < len(s) && wordByte(s[end]) {
			end++
		}
		if end > at {
			words = append(words, api.Span{At: at, End: end})
			// The byte at end, if there is one, is no word byte: the loop may step over it.
			at = end
		}
	}
	return words
}

func wordByte(c byte) bool {
	return 'a' <= c && c <= 'z' || 'A' <= c && c <= 'Z' || '0' <= c && c <= '9' || c == '_'
}

// Excerpt returns the lines that x touches, with up to around lines before and after them, each with a line feed at its end; the empty string unless x is a span of s (0 <= At <= End <= len(s)), around is not negative, and s is not empty. An empty span touches the line in which its offset lies (at the end of s the last line).
func Excerpt(s string, x api.Span, around int) string {
	if x.At < 0 || x.At > x.End || x.End > len(s) || around < 0 || s == "" {
		return ""
	}
	lines := Lines(s)
	// No byte lies at the end of s, and behind a line feed at the end there is no line either.
	lineOf := func(off int) int {
		return min(strings.Count(s[:off], "\n"), len(lines)-1)
	}
	first := lineOf(x.At)
	last := lineOf(max(x.At, x.End-1))
	from := max(0, first-around)
	// last + around can exceed the greatest int, so around is limited before it is added.
	to := last + min(around, len(lines)-1-last)
	var excerpt strings.Builder
	for _, line := range lines[from : to+1] {
		excerpt.WriteString(line)
		excerpt.WriteByte('\n')
	}
	return excerpt.String()
}
