package regex_test

import (
	"math/rand"
	"testing"

	"codesearch/api"
	"codesearch/regex"
)

// parsed returns made strings for which Parse returns an expression, and these.
func parsed() map[string]api.Regex {
	r := rand.New(rand.NewSource(2))
	all := map[string]api.Regex{}
	for range 10000 {
		s, _ := made(r, r.Intn(6))
		if re, err := regex.Parse(s); err == api.OK {
			all[s] = re
		}
	}
	return all
}

// foldOf follows P8.4.
func foldOf(re api.Regex) api.Regex {
	re = cloned(re)
	if re.Kind == api.ReSet {
		in := bytesOf(re.Set)
		for i := range 26 {
			lower, upper := 'a'+i, 'A'+i
			in[lower], in[upper] = in[lower] || in[upper], in[lower] || in[upper]
		}
		re.Set = rangesOf(in)
	}
	for i := range re.Subs {
		re.Subs[i] = foldOf(re.Subs[i])
	}
	return re
}

// checkFold compares Fold with the definition and with its consequences.
func checkFold(t *testing.T, re api.Regex) {
	t.Helper()
	folded := regex.Fold(re)
	if want := foldOf(re); !equal(folded, want) {
		t.Fatalf("Fold(%v) is %v, not %v", re, folded, want)
	}
	if again := regex.Fold(folded); !equal(again, folded) {
		t.Fatalf("Fold of Fold(%v) is %v, not %v", re, again, folded)
	}
	least, most := regex.Lengths(re)
	if low, high := regex.Lengths(folded); low != least || high != most {
		t.Fatalf("Lengths of %v are %d and %d, those of Fold %d and %d", re, least, most, low, high)
	}
	if err := regex.Right(folded); err != api.OK {
		t.Fatalf("Fold(%v) is not right: %d", re, err)
	}
	all := preorder(folded)
	for i, n := range preorder(re) {
		for c := range 256 {
			if regex.Has(n.Set, byte(c)) && !regex.Has(all[i].Set, byte(c)) {
				t.Fatalf("the folded set of %v does not have %d", n, c)
			}
		}
	}
}

func TestFoldNamed(t *testing.T) { // P8.4
	for _, x := range []struct{ re, want api.Regex }{
		{one('a'), set('A', 'A', 'a', 'a')},
		{one('z'), set('Z', 'Z', 'z', 'z')},
		{one('A'), set('A', 'A', 'a', 'a')},
		{one('Z'), set('Z', 'Z', 'z', 'z')},
		{one('m'), set('M', 'M', 'm', 'm')},
		{one('@'), one('@')}, {one('['), one('[')}, {one('`'), one('`')}, {one('{'), one('{')}, // next to the letters
		{one('0'), one('0')}, {one('_'), one('_')}, {one(0), one(0)}, {one(255), one(255)}, {one(127), one(127)},
		{one(0xc4), one(0xc4)}, {one(0xe4), one(0xe4)}, {one(0xc1), one(0xc1)}, {one(0xe1), one(0xe1)}, // no letters
		{set('a', 'c'), set('A', 'C', 'a', 'c')},
		{set('A', 'C'), set('A', 'C', 'a', 'c')},
		{set('a', 'c', 'A', 'C'), set('A', 'C', 'a', 'c')},
		{set('a', 'b', 'B', 'C'), set('A', 'C', 'a', 'c')}, // the cases touch only after folding
		{set('a', 'z'), set('A', 'Z', 'a', 'z')},
		{set('A', 'Z'), set('A', 'Z', 'a', 'z')},
		{set('X', 'c'), set('A', 'C', 'X', 'c', 'x', 'z')}, // over the end of the letters
		{set('A', 'z'), set('A', 'z')},
		{set('Z', 'a'), set('A', 'A', 'Z', 'a', 'z', 'z')},
		{set('@', '['), set('@', '[', 'a', 'z')},
		{set('@', 'A'), set('@', 'A', 'a', 'a')},
		{set('`', '{'), set('A', 'Z', '`', '{')},
		{set('z', '{'), set('Z', 'Z', 'z', '{')},
		{set('0', 'Z'), set('0', 'Z', 'a', 'z')},
		{set('_', '~'), set('A', 'Z', '_', '~')},
		{set('[', '`'), set('[', '`')},
		{set(0, 255), set(0, 255)},
		{set(0, 'a'-1, 'a'+1, 255), set(0, 255)}, // A is in it, and so is a
		{set(0, '@', 'B', '`', 'b', 255), set(0, '@', 'B', '`', 'b', 255)},
		{set(0, '@', '[', 255), set(0, 255)},
		{dot(), dot()},
		{digit(), digit()},
		{wordByte(), wordByte()},
		{set('c', 'c', 'a', 'a', 'b', 'b'), set('A', 'C', 'a', 'c')}, // not canonical
		{set('5', '6', '1', '4', '2', '3'), set('1', '6')},
		{set('1', '2', '1', '2'), set('1', '2')},
		{set(255, 255, 0, 0), set(0, 0, 255, 255)},
		{set(254, 254, 255, 255), set(254, 255)},
		{cat(), cat()}, {begin(), begin()}, {end(), end()}, {bound(), bound()},
		{letters("aB"), cat(set('A', 'A', 'a', 'a'), set('B', 'B', 'b', 'b'))},
		{cat(one('a')), cat(set('A', 'A', 'a', 'a'))}, // a ReCat of one stays
		{alt(one('a'), one('A')), alt(set('A', 'A', 'a', 'a'), set('A', 'A', 'a', 'a'))},
		{rep(one('a'), 2, 5), rep(set('A', 'A', 'a', 'a'), 2, 5)},
		{rep(rep(cat(begin(), alt(one('k'), cat())), 0, -1), 1, 1), rep(rep(cat(begin(), alt(set('K', 'K', 'k', 'k'), cat())), 0, -1), 1, 1)},
	} {
		checkFold(t, x.re)
		if got := regex.Fold(x.re); !equal(got, x.want) {
			t.Errorf("Fold(%v) is %v, not %v", x.re, got, x.want)
		}
	}
}

func TestFoldAll(t *testing.T) { // P8.4, P8.8
	for lo := range 256 {
		checkFold(t, one(byte(lo)))
		for hi := lo; hi < 256; hi += 1 + (hi-lo)/2 {
			checkFold(t, set(byte(lo), byte(hi)))
		}
	}
	edges := []byte{0, 10, '0', '@', 'A', 'B', 'Y', 'Z', '[', '`', 'a', 'b', 'y', 'z', '{', 0xc1, 255}
	for _, a := range edges {
		for _, b := range edges {
			for _, c := range edges {
				for _, d := range edges {
					if a <= b && c <= d {
						checkFold(t, set(a, b, c, d))
					}
				}
			}
		}
	}
	for _, re := range valid() {
		checkFold(t, re)
	}
	for _, re := range parsed() {
		checkFold(t, re)
	}
	many := api.Regex{Kind: api.ReSet, Set: make([]api.Range, 100000)}
	for i := range many.Set {
		many.Set[i] = api.Range{Lo: byte(i), Hi: byte(i)}
	}
	if got := regex.Fold(many); !equal(got, set(0, 255)) {
		t.Errorf("of many ranges: %v", got)
	}
}
