package regex_test

import (
	"math"
	"testing"

	"codesearch/api"
	"codesearch/regex"
)

// checkRight compares Right with a literal result and with the definition.
func checkRight(t *testing.T, re api.Regex, want api.Errno) {
	t.Helper()
	if got := regex.Right(re); got != want || got != rightOf(re) {
		t.Errorf("Right(%v) is %d, not %d", re, got, want)
	}
}

func TestRightKinds(t *testing.T) { // P8.1
	for _, re := range leaves() {
		checkRight(t, re, api.OK)
	}
	for _, kind := range []int{math.MinInt, -1 << 32, -8, -7, -4, -1, 0, 8, 9, 16, 255, 256 + 1, 1<<32 + 1, 1<<32 + 5, math.MaxInt} {
		checkRight(t, api.Regex{Kind: kind}, api.ErrArg)
		checkRight(t, api.Regex{Kind: kind, Set: []api.Range{{Lo: 'a', Hi: 'b'}}}, api.ErrArg)
		checkRight(t, api.Regex{Kind: kind, Subs: []api.Regex{one('a'), one('b')}}, api.ErrArg)
		checkRight(t, api.Regex{Kind: kind, Min: 1, Max: 2, Subs: []api.Regex{one('a')}}, api.ErrArg)
	}
}

// TestRightUnusedFields sets each field that a kind does not use, alone.
func TestRightUnusedFields(t *testing.T) { // P8.1
	uses := map[int]string{api.ReSet: "Set", api.ReCat: "Subs", api.ReAlt: "Subs", api.ReRepeat: "Min Max Subs", api.ReBegin: "", api.ReEnd: "", api.ReBound: ""}
	right := map[int]api.Regex{api.ReSet: one('a'), api.ReCat: letters("ab"), api.ReAlt: alt(one('a'), cat()), api.ReRepeat: rep(one('a'), 1, 2), api.ReBegin: begin(), api.ReEnd: end(), api.ReBound: bound()}
	for kind, used := range uses {
		checkRight(t, right[kind], api.OK)
		if used != "Set" {
			for _, l := range [][]api.Range{{{}}, {{Lo: 'a', Hi: 'z'}}, {{Lo: 2, Hi: 1}}, {{}, {}}} {
				re := right[kind]
				re.Set = l
				checkRight(t, re, api.ErrArg)
			}
			re := right[kind]
			re.Set = []api.Range{}
			checkRight(t, re, api.OK)
		}
		if used != "Min Max Subs" {
			for _, n := range []int{math.MinInt, -8, -1, 1, 2, 8, 9, 1 << 32, math.MaxInt} {
				least, most, both := right[kind], right[kind], right[kind]
				least.Min, most.Max, both.Min, both.Max = n, n, n, -n
				checkRight(t, least, api.ErrArg)
				checkRight(t, most, api.ErrArg)
				checkRight(t, both, api.ErrArg)
			}
		}
		if used == "" || used == "Set" {
			for _, l := range [][]api.Regex{{{}}, {one('a')}, {cat()}, {one('a'), one('b')}} {
				re := right[kind]
				re.Subs = l
				checkRight(t, re, api.ErrArg)
			}
			re := right[kind]
			re.Subs = []api.Regex{}
			checkRight(t, re, api.OK)
		}
	}
}

func TestRightSets(t *testing.T) { // P8.1
	for _, x := range []struct {
		re   api.Regex
		want api.Errno
	}{
		{set(), api.ErrArg},
		{api.Regex{Kind: api.ReSet, Set: []api.Range{}}, api.ErrArg},
		{set(0, 0), api.OK},
		{set(255, 255), api.OK},
		{set(0, 255), api.OK},
		{set('a', 'b'), api.OK},
		{set('b', 'a'), api.ErrArg},
		{set(1, 0), api.ErrArg},
		{set(255, 254), api.ErrArg},
		{set(255, 0), api.ErrArg},
		{set(128, 127), api.ErrArg},
		{set('x', 'z', 'a', 'c'), api.OK},           // not in order
		{set('a', 'c', 'b', 'd'), api.OK},           // they overlap
		{set('a', 'z', 'c', 'd'), api.OK},           // one contains the other one
		{set('a', 'b', 'c', 'd'), api.OK},           // they touch
		{set('c', 'd', 'a', 'b'), api.OK},           // likewise
		{set('a', 'b', 'a', 'b'), api.OK},           // twice
		{set('a', 'b', 'd', 'c'), api.ErrArg},       // the last one is reversed
		{set('b', 'a', 'c', 'd'), api.ErrArg},       // the first one
		{set('a', 'b', 'e', 'd', 0, 0), api.ErrArg}, // one in the middle
		{set('a', 'z', 'd', 'c'), api.ErrArg},       // its bytes are in another one
	} {
		checkRight(t, x.re, x.want)
	}
	for lo := range 256 {
		for hi := range 256 {
			want := api.OK
			if hi < lo {
				want = api.ErrArg
			}
			checkRight(t, set(byte(lo), byte(hi)), want)
			checkRight(t, set('a', 'b', byte(lo), byte(hi)), want)
		}
	}
	many := api.Regex{Kind: api.ReSet, Set: make([]api.Range, 100000)}
	if got := regex.Right(many); got != api.OK {
		t.Errorf("of many ranges: %d", got)
	}
	many.Set[99999] = api.Range{Lo: 1}
	if got := regex.Right(many); got != api.ErrArg {
		t.Errorf("of many ranges, the last one reversed: %d", got)
	}
}

func TestRightSubs(t *testing.T) { // P8.1
	for n, want := range []api.Errno{api.ErrArg, api.OK, api.ErrArg, api.ErrArg} {
		checkRight(t, api.Regex{Kind: api.ReRepeat, Max: -1, Subs: times(n, one('a'))}, want)
		// ErrArg comes before ErrRange.
		wrong := want
		if want == api.OK {
			wrong = api.ErrRange
		}
		checkRight(t, api.Regex{Kind: api.ReRepeat, Subs: times(n, one('a'))}, wrong)
		checkRight(t, api.Regex{Kind: api.ReRepeat, Min: 9, Max: -2, Subs: times(n, one('a'))}, wrong)
	}
	for n, want := range []api.Errno{api.ErrArg, api.ErrArg, api.OK, api.OK, api.OK} {
		checkRight(t, alt(times(n, one('a'))...), want)
		checkRight(t, cat(times(n, one('a'))...), api.OK)
	}
	checkRight(t, api.Regex{Kind: api.ReRepeat, Max: 1, Subs: []api.Regex{}}, api.ErrArg)
	checkRight(t, api.Regex{Kind: api.ReAlt, Subs: []api.Regex{}}, api.ErrArg)
	checkRight(t, api.Regex{Kind: api.ReCat, Subs: []api.Regex{}}, api.OK)
	for _, sub := range []api.Regex{one('a'), cat(), cat(one('a')), alt(one('a'), one('b')), rep(one('a'), 0, 1), begin(), end(), bound()} {
		checkRight(t, rep(sub, 0, -1), api.OK) // any kind can be repeated
		checkRight(t, alt(sub, sub), api.OK)
		checkRight(t, cat(sub), api.OK)
	}
}

// TestRightBounds compares all pairs of bounds with a list of those that are right.
func TestRightBounds(t *testing.T) { // P8.1
	right := map[[2]int]bool{}
	for least := range 9 {
		right[[2]int{least, -1}] = true
		for most := max(1, least); most <= 8; most++ {
			right[[2]int{least, most}] = true
		}
	}
	if len(right) != 9+8+8*9/2 {
		t.Fatalf("there are %d right pairs", len(right))
	}
	numbers := []int{math.MinInt, math.MinInt + 1, -1 << 32, -1<<32 - 1, -9, 1 << 32, 1<<32 + 1, 1<<32 - 1, math.MaxInt - 1, math.MaxInt}
	for n := -3; n <= 12; n++ {
		numbers = append(numbers, n)
	}
	for _, least := range numbers {
		for _, most := range numbers {
			want := api.ErrRange
			if right[[2]int{least, most}] {
				want = api.OK
			}
			checkRight(t, rep(one('a'), least, most), want)
			checkRight(t, cat(begin(), rep(alt(cat(), one('b')), least, most)), want)
			two := rep(one('a'), least, most)
			two.Subs = append(two.Subs, one('b'))
			checkRight(t, two, api.ErrArg)
			filled := rep(one('a'), least, most)
			filled.Set = []api.Range{{}}
			checkRight(t, filled, api.ErrArg)
		}
	}
}

func TestRightLimits(t *testing.T) { // P8.1
	for _, x := range []struct {
		name string
		re   api.Regex
		want api.Errno
	}{
		{"40 nodes", letters("123456789012345678901234567890123456789"), api.OK},
		{"41 nodes", letters("1234567890123456789012345678901234567890"), api.ErrLong},
		{"42 nodes", letters("12345678901234567890123456789012345678901"), api.ErrLong},
		{"40 nodes of alternatives", alt(times(39, cat())...), api.OK},
		{"41 nodes of alternatives", alt(times(40, cat())...), api.ErrLong},
		{"40 nodes on three levels", cat(times(13, cat(one('a'), end()))...), api.OK},
		{"41 nodes on three levels", cat(append(times(13, cat(one('a'), end())), one('a'))...), api.ErrLong},
		{"40 nodes, 20 of them repetitions", cat(append(times(19, rep(one('a'), 8, 8)), cat())...), api.OK},
		{"41 nodes, 20 of them repetitions", cat(times(20, rep(one('a'), 8, 8))...), api.ErrLong},
		{"12 levels", nested(11, one('a')), api.OK},
		{"13 levels", nested(12, one('a')), api.ErrLong},
		{"14 levels", nested(13, one('a')), api.ErrLong},
		{"12 levels on the left", cat(nested(10, begin()), one('a'), one('b')), api.OK},
		{"13 levels on the left", cat(nested(11, begin()), one('a'), one('b')), api.ErrLong},
		{"12 levels on the right", alt(one('a'), nested(9, alt(begin(), end()))), api.OK},
		{"13 levels on the right", alt(one('a'), nested(10, alt(begin(), end()))), api.ErrLong},
		{"12 levels in the middle", cat(one('a'), nested(10, begin()), one('b')), api.OK},
		{"13 levels in the middle", cat(one('a'), nested(11, begin()), one('b')), api.ErrLong},
		{"40 nodes, 12 levels", cat(append(times(28, one('a')), nested(10, end()))...), api.OK},
		{"41 nodes, 12 levels", cat(append(times(29, one('a')), nested(10, end()))...), api.ErrLong},
		{"40 nodes, 13 levels", cat(append(times(27, one('a')), nested(11, end()))...), api.ErrLong},
	} {
		if got := regex.Right(x.re); got != x.want || got != rightOf(x.re) {
			t.Errorf("%s: %d, not %d", x.name, got, x.want)
		}
	}
}

// TestRightOrder has wrong nodes at two places of a tree: the one that is first in preorder counts.
func TestRightOrder(t *testing.T) { // P8.1
	tree := func(place func(i int) api.Regex) api.Regex {
		return alt(cat(place(0), alt(begin(), place(1))), place(2), rep(cat(cat(), place(3)), 0, 1), place(4))
	}
	wrong := []struct {
		re   api.Regex
		want api.Errno
	}{
		{set('b', 'a'), api.ErrArg},
		{api.Regex{}, api.ErrArg},
		{rep(one('a'), 0, 0), api.ErrRange},
		{rep(one('a'), -1, -1), api.ErrRange},
		{nested(12, one('a')), api.ErrLong},
		{cat(times(41, one('a'))...), api.ErrLong},
		{one('x'), api.OK},
	}
	for first := range 5 {
		for second := first + 1; second < 5; second++ {
			for _, a := range wrong {
				for _, b := range wrong {
					re := tree(func(i int) api.Regex {
						switch i {
						case first:
							return a.re
						case second:
							return b.re
						}
						return one('c')
					})
					want := a.want
					if a.want == api.OK || a.want == api.ErrLong && b.want != api.OK {
						want = b.want
					}
					checkRight(t, re, want)
				}
			}
		}
	}
}

func TestRightNodeBeforeSubs(t *testing.T) { // P8.1
	wrong := rep(one('a'), 9, 9)
	checkRight(t, rep(set('b', 'a'), 0, 0), api.ErrRange)            // the root comes first
	checkRight(t, rep(rep(set('b', 'a'), 1, 1), 0, 0), api.ErrRange) // likewise
	checkRight(t, rep(rep(set('b', 'a'), 0, 0), 1, 1), api.ErrRange) // the sub before its own sub
	checkRight(t, rep(set('b', 'a'), 0, 1), api.ErrArg)              // the root has no error
	checkRight(t, alt(wrong), api.ErrArg)                            // the root comes first
	checkRight(t, alt(wrong, api.Regex{}), api.ErrRange)             // the first sub before the second one
	checkRight(t, alt(api.Regex{}, wrong), api.ErrArg)               // likewise
	checkRight(t, cat(cat(cat(wrong)), api.Regex{}), api.ErrRange)   // a node below the first sub before the second one
	checkRight(t, cat(cat(cat(api.Regex{})), wrong), api.ErrArg)     // likewise
	checkRight(t, cat(one('a'), cat(), cat(one('b'), wrong)), api.ErrRange)
	checkRight(t, api.Regex{Kind: api.ReSet, Subs: []api.Regex{wrong}}, api.ErrArg)
	checkRight(t, api.Regex{Kind: api.ReBegin, Subs: []api.Regex{wrong}}, api.ErrArg)
	checkRight(t, api.Regex{Kind: 9, Subs: []api.Regex{wrong}}, api.ErrArg)
	two := rep(wrong, 0, 0) // several errors of one node
	two.Subs = append(two.Subs, wrong)
	checkRight(t, two, api.ErrArg)
	two.Set = []api.Range{{}}
	checkRight(t, two, api.ErrArg)
}

// TestRightErrorBeyondLimits has an error behind so many nodes and levels that the expression is too long anyway.
func TestRightErrorBeyondLimits(t *testing.T) { // P8.1
	for _, n := range []int{11, 12, 13, 20, 50, 1000} {
		checkRight(t, nested(n, api.Regex{}), api.ErrArg)
		checkRight(t, nested(n, rep(one('a'), 0, 0)), api.ErrRange)
		checkRight(t, cat(append(times(n, one('a')), alt())...), api.ErrArg)
		checkRight(t, cat(append(times(n, one('a')), rep(cat(), 2, 1))...), api.ErrRange)
		checkRight(t, cat(append(times(n, rep(cat(), 2, 1)), alt())...), api.ErrRange)
		checkRight(t, cat(append(times(n, nested(13, end())), alt())...), api.ErrArg)
	}
	deep := nested(1<<16-1, one('a'))
	if got := regex.Right(deep); got != api.ErrLong {
		t.Errorf("of 2^16 levels: %d", got)
	}
	if got := regex.Right(nested(1<<16-1, set('b', 'a'))); got != api.ErrArg {
		t.Errorf("of 2^16 levels with a reversed range: %d", got)
	}
	if got := regex.Right(cat(times(1000000, end())...)); got != api.ErrLong {
		t.Errorf("of a million nodes: %d", got)
	}
}

func TestRightOfAll(t *testing.T) { // P8.1
	for _, re := range valid() {
		checkRight(t, re, api.OK)
	}
	for _, re := range []api.Regex{{}, alt(), rep(cat(), 0, 0), rep(cat(), 0, 9), set(1, 0), alt(cat()), {Kind: api.ReEnd, Min: -1}, one('a'), cat()} {
		for _, outer := range grown([]api.Regex{re, one('b')}) {
			for _, whole := range grown([]api.Regex{outer, begin()}) {
				checkRight(t, whole, rightOf(whole))
			}
		}
	}
}
