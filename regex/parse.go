package regex

import (
	"strings"

	"codesearch/api"
)

const (
	special      = `\.*+?()[]{}|^$` // the bytes from 32 to 126 that are no literal bytes
	specialInSet = `\[]^-`          // those that do not stand for themselves in a set
	escapes      = special + "-"    // those that stand for themselves after a backslash
)

// parser reads the parts of an expression from the left to the right; rest is what it has not read yet. Each of its functions returns false if the part does not have its form.
type parser struct{ rest string }

// Parse returns the expression of a string: alternatives separated by |; each a sequence of items; an item is an atom followed by at most one of *, +, ?, {m}, {m,} and {m,n}; an atom is a byte, . (any byte but a line feed), a set ([a-z], [^a-z]), alternatives in parentheses, ^, $, \b, or \ with one of \ . * + ? ( ) [ ] { } | ^ $ - n t d w. Errors, in this order: ErrLong if s has more than MaxQuery bytes; ErrForm if it is not of this form; ErrRange and ErrLong as Right reports them for the expression.
func Parse(s string) (api.Regex, api.Errno) {
	if len(s) > api.MaxQuery {
		return api.Regex{}, api.ErrLong
	}
	p := parser{rest: s}
	re, ok := p.alt()
	if !ok || p.rest != "" {
		return api.Regex{}, api.ErrForm
	}
	if err := Right(re); err != api.OK {
		return api.Regex{}, err
	}
	return re, api.OK
}

// take reads s if the rest begins with it, and reports whether it does.
func (p *parser) take(s string) bool {
	rest, found := strings.CutPrefix(p.rest, s)
	p.rest = rest
	return found
}

func (p *parser) alt() (api.Regex, bool) {
	var seqs []api.Regex
	for {
		seq, ok := p.seq()
		if !ok {
			return api.Regex{}, false
		}
		seqs = append(seqs, seq)
		if !p.take("|") {
			break
		}
	}
	if len(seqs) == 1 {
		return seqs[0], true
	}
	return api.Regex{Kind: api.ReAlt, Subs: seqs}, true
}

func (p *parser) seq() (api.Regex, bool) {
	var items []api.Regex
	for p.rest != "" && p.rest[0] != '|' && p.rest[0] != ')' {
		item, ok := p.item()
		if !ok {
			return api.Regex{}, false
		}
		items = append(items, item)
	}
	if len(items) == 1 {
		return items[0], true
	}
	return api.Regex{Kind: api.ReCat, Subs: items}, true
}

func (p *parser) item() (api.Regex, bool) {
	atom, ok := p.atom()
	if !ok {
		return api.Regex{}, false
	}
	repeat := api.Regex{Kind: api.ReRepeat, Max: none, Subs: []api.Regex{atom}}
	switch {
	case p.take("*"):
	case p.take("+"):
		repeat.Min = 1
	case p.take("?"):
		repeat.Max = 1
	case p.take("{"):
		repeat.Min, repeat.Max, ok = p.bounds()
	default:
		return atom, true
	}
	return repeat, ok
}

// bounds reads the bounds of a repetition and the brace after them.
func (p *parser) bounds() (int, int, bool) {
	inside, rest, closed := strings.Cut(p.rest, "}")
	p.rest = rest
	first, second, comma := strings.Cut(inside, ",")
	least, ok := number(first)
	most := least
	if comma {
		most = none
	}
	if second != "" {
		var right bool
		most, right = number(second)
		ok = ok && right
	}
	return least, most, ok && closed
}

// number returns the value of 0, or of one to three digits of which the first is not 0; false for every other string.
func number(s string) (int, bool) {
	if s == "" || len(s) > 3 || s[0] == '0' && s != "0" {
		return 0, false
	}
	n := 0
	for i := range len(s) {
		if s[i] < '0' || s[i] > '9' {
			return 0, false
		}
		n = 10*n + int(s[i]-'0')
	}
	return n, true
}

func (p *parser) atom() (api.Regex, bool) {
	switch {
	case p.take("("):
		re, ok := p.alt()
		return re, p.take(")") && ok
	case p.take("^"):
		return api.Regex{Kind: api.ReBegin}, true
	case p.take("$"):
		return api.Regex{Kind: api.ReEnd}, true
	case p.take(`\b`):
		return api.Regex{Kind: api.ReBound}, true
	}
	set, ok := p.set()
	return api.Regex{Kind: api.ReSet, Set: set}, ok
}

// set reads an atom that matches one byte, and returns its canonical ranges.
func (p *parser) set() ([]api.Range, bool) {
	if p.take(".") {
		return canonical(func(c byte) bool { return c != '\n' }), true
	}
	if p.take("[") {
		return p.elems()
	}
	if class := p.class(); class != nil {
		return class, true
	}
	c, ok := p.one(special)
	return []api.Range{{Lo: c, Hi: c}}, ok
}

// elems reads the elements of a set and the bracket after them.
func (p *parser) elems() ([]api.Range, bool) {
	negated := p.take("^")
	var all []api.Range
	for {
		elem, ok := p.elem()
		if !ok {
			return nil, false
		}
		all = append(all, elem...)
		if p.take("]") {
			return canonical(func(c byte) bool { return Has(all, c) != negated }), true
		}
	}
}

func (p *parser) elem() ([]api.Range, bool) {
	if class := p.class(); class != nil {
		return class, true
	}
	lo, ok := p.one(specialInSet)
	hi := lo
	if p.take("-") {
		var right bool
		hi, right = p.one(specialInSet)
		ok = ok && right
	}
	return []api.Range{{Lo: lo, Hi: hi}}, ok && lo <= hi
}

// class reads \d or \w, and returns its canonical ranges; nil if the rest begins with neither.
func (p *parser) class() []api.Range {
	switch {
	case p.take(`\d`):
		return []api.Range{{Lo: '0', Hi: '9'}}
	case p.take(`\w`):
		return []api.Range{{Lo: '0', Hi: '9'}, {Lo: 'A', Hi: 'Z'}, {Lo: '_', Hi: '_'}, {Lo: 'a', Hi: 'z'}}
	}
	return nil
}

// one reads a byte from 32 to 126 that stands for itself, and is not an exception, or an escape for one byte.
func (p *parser) one(except string) (byte, bool) {
	if p.take(`\`) {
		return p.escaped()
	}
	if p.rest == "" || !visible(p.rest[0]) || strings.IndexByte(except, p.rest[0]) >= 0 {
		return 0, false
	}
	return p.next(), true
}

// escaped reads what follows the backslash of an escape for one byte.
func (p *parser) escaped() (byte, bool) {
	if p.rest == "" {
		return 0, false
	}
	c := p.next()
	switch c {
	case 'n':
		return '\n', true
	case 't':
		return '\t', true
	}
	return c, strings.IndexByte(escapes, c) >= 0
}

// next reads the first byte of the rest, which is not empty.
func (p *parser) next() byte {
	c := p.rest[0]
	p.rest = p.rest[1:]
	return c
}

// visible reports whether a byte can be in the string of an expression.
func visible(c byte) bool { return ' ' <= c && c <= '~' }
