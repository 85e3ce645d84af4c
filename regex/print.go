package regex

import (
	"slices"
	"strconv"
	"strings"

	"codesearch/api"
)

// The levels of precedence: what has a higher one binds more.
const (
	altLevel = iota
	seqLevel
	itemLevel
	atomLevel
)

// Print returns the canonical string of an expression, for which Parse returns the expression. Errors, in this order: that of Right; ErrForm if there is no canonical string, or it has more than MaxQuery bytes.
func Print(re api.Regex) (string, api.Errno) {
	if err := Right(re); err != api.OK {
		return "", err
	}
	s, ok := printed(re)
	if !ok || len(s) > api.MaxQuery {
		return "", api.ErrForm
	}
	return s, api.OK
}

// printed returns the canonical string of an expression that is right; false if there is none.
func printed(re api.Regex) (string, bool) {
	switch re.Kind {
	case api.ReSet:
		return printedSet(re.Set)
	case api.ReCat:
		// The sequence of one item is this item, so that no string means a ReCat of one.
		if len(re.Subs) == 1 {
			return "", false
		}
		return joined(re.Subs, itemLevel, "")
	case api.ReAlt:
		return joined(re.Subs, seqLevel, "|")
	case api.ReRepeat:
		s, ok := joined(re.Subs, atomLevel, "")
		return s + repetition(re.Min, re.Max), ok
	case api.ReBegin:
		return "^", true
	case api.ReEnd:
		return "$", true
	}
	return `\b`, true
}

// joined returns the canonical strings of the subs with a separator between them; those below a level of precedence are in parentheses.
func joined(subs []api.Regex, level int, separator string) (string, bool) {
	var parts []string
	for _, sub := range subs {
		s, ok := printed(sub)
		if !ok {
			return "", false
		}
		if levelOf(sub.Kind) < level {
			s = "(" + s + ")"
		}
		parts = append(parts, s)
	}
	return strings.Join(parts, separator), true
}

func levelOf(kind int) int {
	switch kind {
	case api.ReAlt:
		return altLevel
	case api.ReCat:
		return seqLevel
	case api.ReRepeat:
		return itemLevel
	}
	return atomLevel
}

func repetition(least, most int) string {
	switch {
	case least == 0 && most == none:
		return "*"
	case least == 1 && most == none:
		return "+"
	case least == 0 && most == 1:
		return "?"
	case most == least:
		return "{" + strconv.Itoa(least) + "}"
	case most == none:
		return "{" + strconv.Itoa(least) + ",}"
	}
	return "{" + strconv.Itoa(least) + "," + strconv.Itoa(most) + "}"
}

// printedSet returns the canonical string of a set; false if there is none.
func printedSet(set []api.Range) (string, bool) {
	if !slices.Equal(set, canonical(func(c byte) bool { return Has(set, c) })) {
		return "", false
	}
	others := canonical(func(c byte) bool { return !Has(set, c) })
	switch {
	case len(set) == 1 && set[0].Lo == set[0].Hi && printable(set):
		return printedByte(set[0].Lo, special), true
	case slices.Equal(others, []api.Range{{Lo: '\n', Hi: '\n'}}):
		return ".", true
	case printable(set):
		return "[" + printedRanges(set) + "]", true
	case len(others) > 0 && printable(others):
		return "[^" + printedRanges(others) + "]", true
	}
	return "", false
}

// printable reports whether the first and the last byte of each range can be written.
func printable(set []api.Range) bool {
	for _, r := range set {
		if !writable(r.Lo) || !writable(r.Hi) {
			return false
		}
	}
	return true
}

func writable(c byte) bool { return c == '\t' || c == '\n' || visible(c) }

func printedRanges(set []api.Range) string {
	var s strings.Builder
	for _, r := range set {
		s.WriteString(printedByte(r.Lo, specialInSet))
		if r.Lo < r.Hi {
			s.WriteString("-" + printedByte(r.Hi, specialInSet))
		}
	}
	return s.String()
}

// printedByte returns a byte that can be written as itself, or as its escape if it is 9, 10 or among those that are escaped.
func printedByte(c byte, escaped string) string {
	switch {
	case c == '\t':
		return `\t`
	case c == '\n':
		return `\n`
	case strings.IndexByte(escaped, c) >= 0:
		return `\` + string(c)
	}
	return string(c)
}
