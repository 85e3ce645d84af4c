package regram

import (
	"slices"

	"codesearch/api"
)

const maxLevels = 40

const codeLimit = 1 << 24 // every code is less

// Right reports whether a condition is valid: each node has one of the five kinds; Gram is a code for NeedGram, and 0 for all others; NeedAnd and NeedOr have at least two Subs, all others none; and there are at most 40 levels.
func Right(n api.Need) bool {
	return rightWithin(n, maxLevels)
}

// rightWithin reports whether a condition is valid and has at most so many levels.
func rightWithin(n api.Need, levels int) bool {
	if levels == 0 {
		return false
	}
	switch n.Kind {
	case api.NeedAll, api.NeedNone:
		return n.Gram == 0 && len(n.Subs) == 0
	case api.NeedGram:
		return n.Gram >= 0 && n.Gram < codeLimit && len(n.Subs) == 0
	case api.NeedAnd, api.NeedOr:
		wrong := func(sub api.Need) bool { return !rightWithin(sub, levels-1) }
		return n.Gram == 0 && len(n.Subs) >= 2 && !slices.ContainsFunc(n.Subs, wrong)
	}
	return false
}

// Eval reports whether a condition holds if exactly the trigrams with the given codes occur, which can be in any order; false if it is not valid.
func Eval(n api.Need, codes []int) bool {
	if !Right(n) {
		return false
	}
	occurs := map[int]bool{}
	for _, code := range codes {
		occurs[code] = true
	}
	var holds, fails func(n api.Need) bool
	holds = func(n api.Need) bool {
		switch n.Kind {
		case api.NeedAll:
			return true
		case api.NeedGram:
			return occurs[n.Gram]
		case api.NeedAnd:
			return !slices.ContainsFunc(n.Subs, fails)
		case api.NeedOr:
			return slices.ContainsFunc(n.Subs, holds)
		}
		return false
	}
	fails = func(n api.Need) bool { return !holds(n) }
	return holds(n)
}

// Simplify returns the simplest form of a condition, which is true for the same trigrams: operators within operators of the same kind are taken apart, equal conditions occur once, and true and false only alone. It returns NeedNone for a condition that is not valid.
func Simplify(n api.Need) api.Need {
	if !Right(n) {
		return api.Need{Kind: api.NeedNone}
	}
	return simplest(n)
}

// simplest returns the simplest form of a condition, in which operators may have any number of subs.
func simplest(n api.Need) api.Need {
	switch n.Kind {
	case api.NeedAnd:
		return joined(n, api.NeedAll, api.NeedNone)
	case api.NeedOr:
		return joined(n, api.NeedNone, api.NeedAll)
	}
	// Without Subs: an empty list could share memory with the argument.
	return api.Need{Kind: n.Kind, Gram: n.Gram}
}

// joined returns the simplest form of an operator: neutral is the kind of the subs that change nothing, decisive that of those that alone decide.
func joined(n api.Need, neutral, decisive int) api.Need {
	var subs []api.Need
	decided := false
	taken := map[string]bool{}
	take := func(form api.Need) {
		key := string(appendKey(nil, form))
		switch {
		case form.Kind == decisive:
			decided = true
		case form.Kind != neutral && !taken[key]:
			taken[key] = true
			subs = append(subs, form)
		}
	}
	for _, sub := range n.Subs {
		form := simplest(sub)
		if form.Kind != n.Kind {
			take(form)
			continue
		}
		for _, inner := range form.Subs {
			take(inner)
		}
	}
	switch {
	case decided:
		return api.Need{Kind: decisive}
	case len(subs) == 0:
		return api.Need{Kind: neutral}
	case len(subs) == 1:
		return subs[0]
	}
	return api.Need{Kind: n.Kind, Subs: subs}
}

// appendKey appends bytes that are the same for the same conditions only: to compare each condition with each other one would take too long for very many of them.
func appendKey(key []byte, n api.Need) []byte {
	key = append(key, byte(n.Kind), byte(n.Gram>>16), byte(n.Gram>>8), byte(n.Gram))
	for _, sub := range n.Subs {
		key = appendKey(key, sub)
	}
	return append(key, 0) // no kind is 0
}

// Same reports whether all fields of two conditions are equal; lists are compared element by element.
func Same(a, b api.Need) bool {
	return a.Kind == b.Kind && a.Gram == b.Gram && slices.EqualFunc(a.Subs, b.Subs, Same)
}
