package regexec

import (
	"slices"

	"codesearch/api"
	"codesearch/regex"
)

const none = -1 // instead of the bound of a repetition if there is none

// step returns the ends of the matches of an expression that begin at one of the offsets. It changes no set, but may return the one that it is given.
type step func(from offsets) offsets

// stepOf returns the step of a valid expression in a string.
func stepOf(re api.Regex, s string) step {
	lineFeed := func(i int) bool { return s[i] == '\n' }
	inWord := func(i int) bool { return i >= 0 && i < len(s) && isWord(s[i]) }
	switch re.Kind {
	case api.ReSet:
		in := table(re.Set)
		return advance(1, func(i int) bool { return i < len(s) && in[s[i]] })
	case api.ReCat:
		return inOrder(stepsOf(re.Subs, s))
	case api.ReAlt:
		return oneOf(stepsOf(re.Subs, s))
	case api.ReRepeat:
		return repeated(stepOf(re.Subs[0], s), re.Min, re.Max)
	case api.ReBegin:
		return advance(0, func(i int) bool { return i == 0 || lineFeed(i-1) })
	case api.ReEnd:
		return advance(0, func(i int) bool { return i == len(s) || lineFeed(i) })
	}
	return advance(0, func(i int) bool { return inWord(i-1) != inWord(i) })
}

func stepsOf(subs []api.Regex, s string) []step {
	var steps []step
	for _, sub := range subs {
		steps = append(steps, stepOf(sub, s))
	}
	return steps
}

// table tells for each byte whether it is in one of the ranges.
func table(set []api.Range) [256]bool {
	var in [256]bool
	for c := range in {
		in[c] = regex.Has(set, byte(c))
	}
	return in
}

func isWord(c byte) bool {
	return 'a' <= c && c <= 'z' || 'A' <= c && c <= 'Z' || '0' <= c && c <= '9' || c == '_'
}

// advance returns the step that leads over length bytes from where a condition holds.
func advance(length int, holds func(i int) bool) step {
	return func(from offsets) offsets {
		var to offsets
		for i := range from.each {
			if holds(i) {
				to.put(i + length)
			}
		}
		return to
	}
}

func inOrder(steps []step) step {
	return func(from offsets) offsets {
		for _, next := range steps {
			from = next(from)
		}
		return from
	}
}

func oneOf(steps []step) step {
	return func(from offsets) offsets {
		var to offsets
		for _, next := range steps {
			to.add(next(from))
		}
		return to
	}
}

// repeated returns the step of what is repeated at least least and at most most times.
func repeated(once step, least, most int) step {
	return func(from offsets) offsets {
		for range least {
			to := once(from)
			// When nothing changes any more, it does not at the further times either: without this, repetitions of repetitions could take time for each of their 8^11 times.
			if slices.Equal(to.rows, from.rows) {
				return to
			}
			from = to
		}
		var reached offsets
		fresh := reached.add(from)
		for n := least; !fresh.empty() && (most == none || n < most); n++ {
			fresh = reached.add(once(fresh))
		}
		return reached
	}
}
