package regex_test

import (
	"testing"

	"codesearch/api"
	"codesearch/regex"
)

// lengthsOf follows P8.6.
func lengthsOf(re api.Regex) (int, int) {
	least, most, endless := 0, 0, false
	for i, sub := range re.Subs {
		low, high := lengthsOf(sub)
		endless = endless || high < 0
		switch {
		case re.Kind == api.ReAlt && i == 0:
			least, most = low, high
		case re.Kind == api.ReAlt:
			least, most = min(least, low), max(most, high)
		default:
			least, most = least+low, most+high
		}
	}
	switch {
	case re.Kind == api.ReSet:
		return 1, 1
	case endless && re.Kind == api.ReRepeat:
		return least * re.Min, -1
	case endless:
		return least, -1
	case re.Kind == api.ReRepeat && re.Max < 0 && most == 0:
		return least * re.Min, 0
	case re.Kind == api.ReRepeat && re.Max < 0:
		return least * re.Min, -1
	case re.Kind == api.ReRepeat:
		return least * re.Min, most * re.Max
	}
	return least, most
}

func TestLengthsNamed(t *testing.T) { // P8.6
	a, opt, star, empty := one('a'), rep(one('a'), 0, 1), rep(one('a'), 0, -1), rep(cat(), 0, -1)
	for _, x := range []struct {
		re          api.Regex
		least, most int
	}{
		{cat(), 0, 0}, {begin(), 0, 0}, {end(), 0, 0}, {bound(), 0, 0},
		{a, 1, 1}, {dot(), 1, 1}, {set('a', 'a', 'a', 'z'), 1, 1}, {set(0, 255), 1, 1},
		{cat(a), 1, 1},
		{letters("abc"), 3, 3},
		{cat(begin(), a, bound(), end()), 1, 1},
		{cat(opt, a, rep(a, 2, 3)), 3, 5},
		{cat(a, star, a), 2, -1},
		{cat(star, a), 1, -1},
		{cat(a, a, star), 2, -1},
		{cat(star, star), 0, -1},
		{cat(empty, a), 1, 1},
		{alt(a, letters("abc")), 1, 3},
		{alt(letters("abc"), a), 1, 3},
		{alt(a, letters("abcd"), letters("ab")), 1, 4},
		{alt(letters("ab"), a, letters("abc")), 1, 3},
		{alt(letters("ab"), letters("ab")), 2, 2},
		{alt(a, cat()), 0, 1},
		{alt(cat(), a), 0, 1},
		{alt(begin(), end()), 0, 0},
		{alt(a, star), 0, -1},
		{alt(star, a), 0, -1},
		{alt(rep(a, 2, -1), letters("abc")), 2, -1},
		{alt(letters("abc"), rep(a, 2, -1), letters("abcd")), 2, -1},
		{alt(empty, a), 0, 1},
		{rep(a, 0, -1), 0, -1},
		{rep(a, 1, -1), 1, -1},
		{rep(a, 8, -1), 8, -1},
		{rep(a, 0, 1), 0, 1},
		{rep(a, 0, 8), 0, 8},
		{rep(a, 3, 5), 3, 5},
		{rep(a, 8, 8), 8, 8},
		{rep(letters("abc"), 2, 4), 6, 12},
		{rep(alt(a, letters("abc")), 2, 4), 2, 12},
		{rep(alt(cat(), letters("abc")), 2, 4), 0, 12},
		{rep(letters("abc"), 2, -1), 6, -1},
		{rep(begin(), 0, -1), 0, 0}, // without a bound over what is empty
		{rep(cat(), 0, -1), 0, 0},
		{rep(cat(), 8, -1), 0, 0},
		{rep(cat(), 3, 5), 0, 0},
		{rep(cat(begin(), end()), 1, -1), 0, 0},
		{rep(alt(bound(), cat()), 2, -1), 0, 0},
		{rep(empty, 1, -1), 0, 0},
		{rep(rep(empty, 0, -1), 0, 8), 0, 0},
		{rep(opt, 0, -1), 0, -1}, // over what can be empty
		{rep(opt, 3, -1), 0, -1},
		{rep(opt, 3, 4), 0, 4},
		{rep(star, 0, 1), 0, -1}, // the sub has no greatest one
		{rep(star, 2, 3), 0, -1},
		{rep(star, 0, -1), 0, -1},
		{rep(rep(a, 2, -1), 3, 3), 6, -1},
		{rep(rep(a, 2, -1), 3, -1), 6, -1},
		{rep(alt(a, cat(a, star)), 2, 2), 2, -1}, // at any level
		{cat(a, alt(a, rep(cat(a, star), 1, 1))), 2, -1},
		{rep(rep(a, 2, 3), 4, 5), 8, 15},
		{rep(rep(a, 0, 3), 0, 5), 0, 15},
		{rep(rep(rep(a, 8, 8), 8, 8), 8, 8), 512, 512},
	} {
		if least, most := regex.Lengths(x.re); least != x.least || most != x.most {
			t.Errorf("Lengths(%v) are %d and %d, not %d and %d", x.re, least, most, x.least, x.most)
		}
		if least, most := lengthsOf(x.re); least != x.least || most != x.most {
			t.Errorf("of %v: %d and %d", x.re, least, most)
		}
	}
	greatest := alt(times(28, a)...)
	re := one('a')
	for range 11 {
		re = rep(re, 8, 8)
	}
	if least, most := regex.Lengths(re); least != 1<<33 || most != 1<<33 {
		t.Errorf("Lengths of 11 repetitions are %d and %d", least, most)
	}
	for range 10 {
		greatest = rep(greatest, 7, 8)
	}
	if least, most := regex.Lengths(greatest); least != 282475249 || most != 1<<30 {
		t.Errorf("Lengths of 10 repetitions are %d and %d", least, most)
	}
}

func TestLengthsAll(t *testing.T) { // P8.6
	for _, re := range valid() {
		least, most := regex.Lengths(re)
		if low, high := lengthsOf(re); least != low || most != high {
			t.Fatalf("Lengths(%v) are %d and %d, not %d and %d", re, least, most, low, high)
		}
	}
	for s, re := range parsed() {
		least, most := regex.Lengths(re)
		if low, high := lengthsOf(re); least != low || most != high {
			t.Fatalf("Lengths of %q are %d and %d, not %d and %d", s, least, most, low, high)
		}
	}
}
