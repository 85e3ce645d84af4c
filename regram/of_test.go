package regram_test

import (
	"math/rand"
	"testing"

	"codesearch/api"
	"codesearch/regex"
	"codesearch/regexec"
	"codesearch/regram"
	"codesearch/trigram"
)

// checkOf compares the condition of an expression with another one.
func checkOf(t *testing.T, name string, re api.Regex, want api.Need) {
	t.Helper()
	if err := regex.Right(re); err != api.OK {
		t.Fatalf("%s is not valid: %v", name, err)
	}
	n, folded := regram.Of(re), regram.Of(regex.Fold(re))
	if !equal(n, want) || !equal(folded, want) {
		t.Errorf("Of %s is %v, folded %v, not %v", name, n, folded, want)
	}
}

// TestOfStrings has expressions that package regex reads, and their conditions.
func TestOfStrings(t *testing.T) { // P10.2
	aToH := func(before, after string) api.Need {
		n := or()
		for c := byte('a'); c <= 'h'; c++ {
			n.Subs = append(n.Subs, gram(before+string([]byte{c})+after))
		}
		return n
	}
	ofAB := or(gram("aaa"), gram("aab"), gram("aba"), gram("abb"), gram("baa"), gram("bab"), gram("bba"), gram("bbb"))
	for s, want := range map[string]api.Need{
		// Fewer than three bytes, and no bytes at all.
		"": always, "a": always, "ab": always, "[a-h]": always, "[a-h]b": always, "()": always, "(a|bc)": always, "a{2}": always, "a{1,2}": always, "a{0,8}": always,
		"^": always, "$": always, `\b`: always, ".": always, "...": always, "(^|$)": always,
		// Strings, with equal trigrams.
		"abc": gram("abc"), "abcd": grams("abc bcd"), "aaaa": gram("aaa"), "abcabc": grams("abc bca cab"), "ababab": grams("aba bab"), "a{8}b{8}": grams("aaa aab abb bbb"), "xabcab": grams("xab abc bca cab"),
		// Several strings: in order, equal ones, and ones without a trigram.
		"(foo|bar)": or(gram("bar"), gram("foo")), "(foo|bar|foo)": or(gram("bar"), gram("foo")), "fo[ox]": or(gram("foo"), gram("fox")), "(abcd|xyz)": or(grams("abc bcd"), gram("xyz")), "(abc|abcabc)": or(gram("abc"), grams("abc bca cab")),
		"(abc|ab)": always, "(abc|)": always, "(abcd|ab|x)": always, "(aaa|aaaa|aaaaa)": gram("aaa"), "(xabab|ababx|xbabx)": or(grams("aba bab abx"), grams("xab aba bab"), grams("xba bab abx")),
		"(ab?c|ac)d": or(grams("abc bcd"), gram("acd")), "(ab|cde)f": or(gram("abf"), grams("cde def")),
		// Letters of both cases.
		"FOO": gram("foo"), "[fF][oO]O": gram("foo"), "(FOO|foo|Foo|fOO)": gram("foo"), "(Bxy|_xy)": or(gram("_xy"), gram("bxy")), "(Bxy|axy)": or(gram("axy"), gram("bxy")), "[A-H]xy": aToH("", "xy"), "[A-Ha-h]xy": aToH("", "xy"), "x[d-ha-eF-HA-C]y": aToH("x", "y"), "xy[A-Da-h]": aToH("xy", ""),
		"[A-I]xyz": gram("xyz"), "[A-Ha-i]xyz": gram("xyz"), "[A-Ea-h][X]y": aToH("", "xy"), "([a-d]|[A-H])xy": aToH("", "xy"), "([a-h]|[A-H])xy": aToH("", "xy"), "[aA]{3}": gram("aaa"), "[aAbB]{3}": ofAB, "[AZ]bc": or(gram("abc"), gram("zbc")),
		"[@A]bc": or(gram("@bc"), gram("abc")), `[Z\[]bc`: or(gram("[bc"), gram("zbc")),
		// Sequences: parts that are taken over until the product does not exist.
		"[ab]{3}[cd]e": ofAB, "[ab]{3}[cd]ef": and(ofAB, or(gram("cef"), gram("def"))), "[ab][ab][ab][cd]ef": and(ofAB, or(gram("cef"), gram("def"))), "[ab]{3}xyz": simplestOf(listCondition(stringSet{"aaaxyz": true, "aabxyz": true, "abaxyz": true, "abbxyz": true, "baaxyz": true, "babxyz": true, "bbaxyz": true, "bbbxyz": true})),
		"[abc]xy[abc]zw": and(or(gram("axy"), gram("bxy"), gram("cxy")), or(gram("azw"), gram("bzw"), gram("czw"))), "[abc][abc]xyz": or(grams("axy xyz"), grams("bxy xyz"), grams("cxy xyz")), "x[abc][abc]yz": or(gram("ayz"), gram("byz"), gram("cyz")),
		"a{8}b{8}cde": grams("aaa aab abb bbb cde"), "a{8}b{8}cdefg": grams("aaa aab abb bbb cde def efg"), "a{8}b{8}()cde": grams("aaa aab abb bbb cde"), "a{8}b{8}c?def": and(gram("aaa"), gram("aab"), gram("abb"), gram("bbb"), or(grams("cde def"), gram("def"))),
		"abcdefghijklmnopq": grams("abc bcd cde def efg fgh ghi hij ijk jkl klm lmn mno nop"), "abcdefghijklmnopqrs": grams("abc bcd cde def efg fgh ghi hij ijk jkl klm lmn mno nop qrs"),
		"(abc|abcd)(x{8}|y)(z{8}|yy)": or(grams("abc bcd cdx dxx xxx"), grams("abc bcd cdy"), grams("abc bcx cxx xxx"), grams("abc bcy")), // one of 4 + 8 + 8 bytes would be too long
		// Sequences: parts between subs without literals.
		"foo.*bar": grams("foo bar"), "abc.def": grams("abc def"), "abc^def": grams("abc def"), `\babc\bdef\b`: grams("abc def"), "^foo$": gram("foo"), ".abc.": gram("abc"), "ab.cd": always, "ab.cde": gram("cde"), "abc.cd": gram("abc"), "abc.abc": gram("abc"), "..abc..bcd.abcd": grams("abc bcd"), "bcd.abcd": grams("bcd abc"),
		"abc(.)def": grams("abc def"), "abc(x|.)def": grams("abc def"), "abc[a-i]def": grams("abc def"), "ab(cd)ef": grams("abc bcd cde def"), "ab(cd+)ef": always, "ab(cd+)efg": gram("efg"), "abc(defg+)hij": grams("abc def hij"), "abc(x.yzw)def": grams("abc yzw def"), "(abc.d)(e.fgh)": grams("abc fgh"),
		"ab+c": always, "ab+cde": gram("cde"), "abcd+": gram("abc"), "abc(def)+ghi": grams("abc def ghi"), "abc(def)*ghi": grams("abc ghi"), "abc(def)?ghi": or(grams("abc bcd cde def efg fgh ghi"), grams("abc bcg cgh ghi")),
		"(foo|bar)x+": or(gram("bar"), gram("foo")), "foo(.|x)foo": gram("foo"), "abc(bar|foo+x)def": grams("abc def"), "abc(bar|fooo+x)def": and(gram("abc"), or(gram("bar"), gram("foo")), gram("def")),
		// Alternatives.
		"(foo|.)": always, "(.|foo)": always, "(foo+|(bar)+)": always, "(fool+|(bar)+)": or(gram("foo"), gram("bar")), "(abcd+|xyz)": or(gram("abc"), gram("xyz")), "(xyz|abcd+)": or(gram("xyz"), gram("abc")), "((abc)+|(abc)+x)": gram("abc"), "((abc)+|(xyz)*)": always, "((abc)+|)": always, "((abc)+|ab)": always,
		"((abc)+|bcd|(xyz|(bcd)+))": or(gram("abc"), gram("bcd"), gram("xyz")), "((abc.bcd)|(xyz)+)": or(grams("abc bcd"), gram("xyz")), "((abc.bcd)|(bcd.abc))": or(grams("abc bcd"), grams("bcd abc")), "(abc.bcd|bcd.xyz)x(abc|bcd)": and(or(grams("abc bcd"), grams("bcd xyz")), or(grams("xab abc"), grams("xbc bcd"))),
		"([a-h]xy|ixy)": or(append(aToH("", "xy").Subs, gram("ixy"))...), "(abc|[0-9])": always, "(abc+d|abc)": always,
		// Repetitions.
		"(foo)+": gram("foo"), "(foo)*": always, "(foo)?": always, "(foo){0,2}": always, "(foo){0,}": always, "(abc){1,2}": or(gram("abc"), grams("abc bca cab")), "(abc){2,}": gram("abc"), "(abc){2}": grams("abc bca cab"), "(abc){1}": gram("abc"), "(abc){1,}": gram("abc"), "a{3,5}": gram("aaa"), "a{2,5}": always, "a{3,}": always,
		"(abcd+)?": always, "(abcd+){0,3}": always, "(abcd+){1,3}": gram("abc"), "(abcd+){3}": gram("abc"), "(abcd+){8,}": gram("abc"), "(abcd.xyz){2,3}": grams("abc bcd xyz"), "(ab){3,8}": grams("aba bab"), "(abc){6}": gram("abc"), "(abc){1,6}": gram("abc"), "(abc|bcd){4}": or(gram("abc"), gram("bcd")), "(abc|bcd){0,4}": always,
		"[abc]{3}": always, "[ab]{3}": ofAB, "[ab]{3,4}": always, ".{3}": always, "((abc)*)+": always, "((abc)+)*": always, "((abc)+)+": gram("abc"), "((abc){6}){2}": gram("abc"), "(){3,}abc": gram("abc"),
	} {
		checkOf(t, s, parsed(s), want)
	}
}

// TestOfBytes has every byte as a part of trigrams.
func TestOfBytes(t *testing.T) { // P10.2
	for c := range 256 {
		s := string([]byte{byte(c)})
		f := foldedIf(true, s)
		checkOf(t, "a byte", bytes(s+"xy"), gram(f+"xy"))
		checkOf(t, "a byte", cat(one('x'), rep(bytes(s), 1, 1), alt(one('y'), one('Y'))), gram("x"+f+"y"))
		checkOf(t, "a byte", cat(set(0, 255), rep(bytes(s), 3, 3)), gram(f+f+f))
		checkOf(t, "a byte", bytes("x"+s+s+s), simplestOf(and(gram("x"+f+f), gram(f+f+f))))
		strings := stringSet{f: true, foldedIf(true, string([]byte{byte(c) ^ 32})): true}
		checkOf(t, "two bytes", cat(set(byte(c), byte(c), byte(c)^32, byte(c)^32), bytes("ZZ")), simplestOf(listCondition(mapped(strings, "zz"))))
	}
}

// mapped returns the strings of a set, each with an end.
func mapped(all stringSet, end string) stringSet {
	longer := stringSet{}
	for s := range all {
		longer[s+end] = true
	}
	return longer
}

// TestOfLong has as many strings and parts as there can be.
func TestOfLong(t *testing.T) { // P10.2
	const all = "abcdefghijklmnopqrstuvwxyz0123456789"
	for n := range 37 {
		want := stringCondition(all[:min(n, 16)])
		for from := 16; from < n; from += 16 {
			want = and(want, stringCondition(all[from:min(n, from+16)]))
		}
		checkOf(t, "a string", bytes(all[:n]), simplestOf(want))
	}
	inner := and(gram("abc"), or(gram("bcd"), gram("cde")))
	re, want := parsed("abc.(bcd|(cde)+)"), inner
	for i := range 3 {
		end := all[i : i+1]
		re = alt(cat(re, bytes("+"+end+end)), rep(one('x'), 3, 3))
		want = or(and(want, gram("+"+end+end)), gram("xxx"))
	}
	checkOf(t, "a deep expression", re, simplestOf(want))
}

func TestOfByDefinition(t *testing.T) { // P10.2, P10.8
	kinds := map[int]int{}
	visitValid(func(re api.Regex) {
		n, want := regram.Of(re), simplestOf(rawOf(re))
		if !equal(n, want) {
			t.Fatalf("Of(%v) is %v, not %v", re, n, want)
		}
		if folded := regram.Of(regex.Fold(re)); !equal(folded, n) {
			t.Fatalf("Of(%v) is %v, but folded %v", re, n, folded)
		}
		if form := regram.Simplify(n); !regram.Right(n) || !equal(form, n) {
			t.Fatalf("Of(%v), %v, is not valid, or not its own simplest form", re, n)
		}
		kinds[n.Kind]++
	})
	if kinds[api.NeedAll] < 1000 || kinds[api.NeedGram] < 1000 || kinds[api.NeedAnd] < 1000 || kinds[api.NeedOr] < 1000 || kinds[api.NeedNone] > 0 {
		t.Errorf("conditions by their kinds: %v", kinds)
	}
}

// matched returns a string that an expression matches, if what stands around it fits.
func matched(r *rand.Rand, re api.Regex) string {
	s := ""
	switch re.Kind {
	case api.ReSet:
		x := re.Set[r.Intn(len(re.Set))]
		s = string([]byte{x.Lo + byte(r.Intn(int(x.Hi-x.Lo)+1))})
	case api.ReCat:
		for _, sub := range re.Subs {
			s += matched(r, sub)
		}
	case api.ReAlt:
		s = matched(r, re.Subs[r.Intn(len(re.Subs))])
	case api.ReRepeat:
		most := re.Max
		if most == -1 {
			most = re.Min + 3
		}
		for range re.Min + r.Intn(most-re.Min+1) {
			s += matched(r, re.Subs[0])
		}
	}
	return s
}

// TestNoneMissed shows that strings in which an expression matches satisfy its condition, also with letters of the other case if the expression is folded.
func TestNoneMissed(t *testing.T) { // P10.6
	r := rand.New(rand.NewSource(6))
	matches, conditions := 0, 0
	visitValid(func(re api.Regex) {
		if r.Intn(2) == 0 {
			return
		}
		if r.Intn(4) == 0 {
			re = regex.Fold(re)
		}
		s := []string{"", "ab", "foo ", "\n", "aaa"}[r.Intn(5)] + matched(r, re) + []string{"", "b", " aab", "\n", "\xff"}[r.Intn(5)]
		if len(s) > 3000 || !regexec.Match(re, s) {
			return
		}
		n := regram.Of(re)
		if !regram.Eval(n, trigram.Of(s)) {
			t.Fatalf("%v matches in %q, but its condition, %v, does not hold", re, s, n)
		}
		matches++
		if n.Kind != api.NeedAll {
			conditions++
		}
	})
	if matches < 5000 || conditions < 2000 {
		t.Errorf("%d matches, %d of expressions with a condition", matches, conditions)
	}
}

// TestNoneMissedShort tries all short strings of a few bytes.
func TestNoneMissedShort(t *testing.T) { // P10.6
	strings := []string{""}
	for i := 0; len(strings[i]) < 6; i++ {
		for _, c := range []string{"a", "b", "C"} {
			strings = append(strings, strings[i]+c)
		}
	}
	codes := map[string][]int{}
	for _, s := range strings {
		codes[s] = trigram.Of(s)
	}
	for _, x := range []string{"abc", "ab+c", "a+b+c", "[ab]{3}", "(abc|bca)", "(ab|b)(c|ca)", "a.?b[ab]c", "(abc|b+cab)", "(aab|ba[ab])+", "(ab?){3}", "^(ab|ba){2}$", "(a|b){4,}", `\babc|cab`, "(aa){2,3}|bbb", "(a*bac)+", "((ab)+a|bab){1,2}"} {
		for _, re := range []api.Regex{parsed(x), regex.Fold(parsed(x))} {
			n := regram.Of(re)
			for _, s := range strings {
				if regexec.Match(re, s) && !regram.Eval(n, codes[s]) {
					t.Errorf("%s matches in %q, but its condition, %v, does not hold", x, s, n)
				}
			}
		}
	}
}
