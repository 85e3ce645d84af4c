package regram_test

import (
	"math"
	"math/rand"
	"slices"
	"testing"

	"codesearch/api"
	"codesearch/regram"
)

// simple are conditions without subs.
func simple() []api.Need { return []api.Need{always, never, code(1), code(2)} }

// joinedOf returns the operators of both kinds with two or three of some conditions.
func joinedOf(subs []api.Need) []api.Need {
	var l []api.Need
	for i, a := range subs {
		for k, b := range subs {
			l = append(l, and(a, b), or(a, b))
			c := subs[(7*i+3*k+1)%len(subs)]
			l = append(l, and(a, b, c), or(c, a, b))
		}
	}
	return l
}

// conditions returns valid conditions: all of two levels with two subs, many of three and of more levels.
func conditions() []api.Need {
	low := joinedOf(simple())
	for _, a := range simple() {
		for _, b := range simple() {
			for _, c := range simple() {
				low = append(low, and(a, b, c), or(a, b, c))
			}
		}
	}
	r := rand.New(rand.NewSource(5))
	all := append(simple(), low...)
	for _, a := range all {
		for _, b := range simple() {
			all = append(all, and(a, b), or(a, b), and(b, a), or(b, a))
		}
		for range 20 {
			b, c := all[r.Intn(len(all))], low[r.Intn(len(low))]
			all = append(all, and(a, b), or(a, b), and(b, c, a), or(b, a, c))
		}
	}
	for range 3000 {
		all = append(all, madeCondition(r, 2+r.Intn(5)))
	}
	return all
}

// madeCondition returns a valid condition of at most so many levels.
func madeCondition(r *rand.Rand, levels int) api.Need {
	if levels == 1 || r.Intn(8) == 0 {
		return []api.Need{always, never, code(0), code(1), code(2), code(3), code(3), code(1<<24 - 1)}[r.Intn(8)]
	}
	n := api.Need{Kind: api.NeedAnd + r.Intn(2)}
	for range 2 + r.Intn(3) {
		n.Subs = append(n.Subs, madeCondition(r, levels-1))
	}
	return n
}

// deep returns an operator of so many levels; each of its nodes is the given one of the subs of the node above it.
func deep(levels, at int) api.Need {
	n := code(5)
	for i := 1; i < levels; i++ {
		subs := []api.Need{code(1), always, code(2)}
		subs[at] = n
		n = api.Need{Kind: api.NeedAnd + i%2, Subs: subs}
	}
	return n
}

// wrongNodes are nodes that are not valid, with all that is below them.
func wrongNodes() []api.Need {
	var l []api.Need
	two, one := []api.Need{code(1), code(2)}, []api.Need{code(1)}
	for _, kind := range []int{math.MinInt, -1, 0, 6, 7, 256 + api.NeedAll, math.MaxInt} {
		l = append(l, api.Need{Kind: kind}, api.Need{Kind: kind, Subs: two}, api.Need{Kind: kind, Gram: 1})
	}
	for _, n := range []int{math.MinInt, -1 << 24, -1, 1, 5, 1 << 24, math.MaxInt} {
		l = append(l, api.Need{Kind: api.NeedAll, Gram: n}, api.Need{Kind: api.NeedNone, Gram: n})
		l = append(l, api.Need{Kind: api.NeedAnd, Gram: n, Subs: two}, api.Need{Kind: api.NeedOr, Gram: n, Subs: two})
	}
	for _, n := range []int{math.MinInt, -1 << 24, -2, -1, 1 << 24, 1<<24 + 1, 1 << 25, 1 << 32, math.MaxInt} {
		l = append(l, code(n))
	}
	for _, kind := range []int{api.NeedAll, api.NeedNone, api.NeedGram} {
		l = append(l, api.Need{Kind: kind, Subs: one}, api.Need{Kind: kind, Subs: two})
	}
	l = append(l, and(), or(), and(code(1)), or(code(1)), and(always), or(never), and(or(code(1), code(2))))
	return append(l, deep(41, 0), deep(41, 1), deep(41, 2), deep(42, 0), deep(65536, 0), deep(65536, 2))
}

// wrong are conditions that are not valid: nodes alone and at each place within others, also where what stands before them decides whether the condition holds.
func wrong() []api.Need {
	all := wrongNodes()
	for _, n := range wrongNodes() {
		all = append(all, and(n, code(1)), and(code(1), n), or(n, code(1)), or(code(1), n), or(always, n), or(n, always), and(never, n), and(n, never))
		all = append(all, and(code(1), code(2), n), or(always, and(never, n), always), and(or(always, and(code(1), n)), code(2)))
	}
	return all
}

func TestRight(t *testing.T) { // P10.3
	for i, n := range wrong() {
		if regram.Right(n) {
			t.Errorf("the wrong condition %d is valid", i)
		}
	}
	good := []api.Need{always, never, code(0), code(1), code(1<<24 - 1), code(65536*'A' + 256*'B' + 'C'), and(always, always), or(never, never), or(code(1), or(code(1), code(1)))}
	for levels := 1; levels <= 40; levels++ {
		good = append(good, deep(levels, 0), deep(levels, 1), deep(levels, 2))
	}
	many := and()
	for i := range 1000 {
		many.Subs = append(many.Subs, or(code(i), deep(38-i%3, i%3)))
	}
	good = append(good, many.Subs[7], or(many.Subs...))
	for i, n := range append(good, append(shared(), conditions()...)...) {
		if !regram.Right(n) {
			t.Errorf("the condition %d is not valid", i)
		}
	}
	if many.Subs[999] = or(code(1), deep(38, 0)); !regram.Right(many) {
		t.Error("many subs of 40 levels are not valid")
	}
	if many.Subs[999] = or(code(1), deep(39, 0)); regram.Right(many) {
		t.Error("many subs, the last one of 41 levels, are valid")
	}
}

// TestRightOfEach has each combination of a kind, a code and subs.
func TestRightOfEach(t *testing.T) { // P10.3
	for kind := -2; kind <= 8; kind++ {
		for _, gram := range []int{-1, 0, 1, 1<<24 - 1, 1 << 24} {
			for count := range 5 {
				n := api.Need{Kind: kind, Gram: gram}
				for range count {
					n.Subs = append(n.Subs, always)
				}
				want := false
				switch kind {
				case 1, 2:
					want = gram == 0 && count == 0
				case 3:
					want = gram >= 0 && gram < 16777216 && count == 0
				case 4, 5:
					want = gram == 0 && count >= 2
				}
				if regram.Right(n) != want || regram.Right(and(code(1), n)) != want || regram.Right(or(and(n, never), always)) != want {
					t.Errorf("Right of the kind %d, the code %d and %d subs is not %v", kind, gram, count, want)
				}
			}
		}
	}
}

// codeLists are the codes that occur: in any order, several times, and such as no trigram has.
var codeLists = [][]int{nil, {}, {1}, {2}, {1, 2}, {2, 1}, {3, 2, 1}, {1, 1, 1}, {3, 1, 3}, {0}, {1<<24 - 1, 0, 3}, {-1, 1 << 24, math.MaxInt, math.MinInt, 4, 5, 6}, {math.MaxInt, 2, -1, 2, 1<<24 + 1, 3}, {3, 0, 1, 1<<24 - 1, 2}}

func TestEval(t *testing.T) { // P10.4
	count := 0
	for _, n := range append(shared(), conditions()...) {
		for _, codes := range codeLists {
			if got, want := regram.Eval(n, codes), holds(n, codes); got != want {
				t.Fatalf("Eval(%v, %v) is %v", n, codes, got)
			}
			if holds(n, codes) {
				count++
			}
		}
	}
	if count < 10000 {
		t.Errorf("only %d hold", count)
	}
	for _, n := range []int{0, 1, 2, 65536, 1<<24 - 2, 1<<24 - 1} {
		for _, other := range []int{n - 1, n + 1, -n - 1, n + 1<<24, n - 1<<24, n + 1<<32} {
			if !regram.Eval(code(n), []int{other, n}) || regram.Eval(code(n), []int{other}) {
				t.Errorf("the code %d beside %d", n, other)
			}
		}
	}
	for i, n := range wrong() {
		for _, codes := range [][]int{nil, {1}, {1, 2, 5}, {-1, 1 << 24, 0}} {
			if regram.Eval(n, codes) {
				t.Errorf("the wrong condition %d holds for %v", i, codes)
			}
		}
	}
}

func TestEvalOfMany(t *testing.T) { // P10.4
	const many = 200000
	n, codes := and(), []int(nil)
	for i := range many {
		n.Subs = append(n.Subs, or(code(i), code(i+many)))
		codes = append(codes, (many-i)*2-2)
	}
	odd := or()
	for i := range many {
		odd.Subs = append(odd.Subs, code(2*i+1))
	}
	if regram.Eval(n, codes) || regram.Eval(odd, codes) || !regram.Eval(n, append(codes, codesOf(odd)[:many/2]...)) || !regram.Eval(odd, []int{-1, many*2 - 1}) {
		t.Error("many codes")
	}
}

// codesOf returns the codes of the subs.
func codesOf(n api.Need) []int {
	var l []int
	for _, sub := range n.Subs {
		l = append(l, sub.Gram)
	}
	return l
}

func TestSimplify(t *testing.T) { // P10.5
	a, b, c, d := code(1), code(2), code(3), code(0)
	for i, x := range []struct{ n, want api.Need }{
		{always, always}, {never, never}, {a, a}, {d, d}, {code(1<<24 - 1), code(1<<24 - 1)},
		{and(a, b), and(a, b)}, {and(b, a), and(b, a)}, {or(b, a), or(b, a)}, {and(c, a, b), and(c, a, b)},
		{and(a, a), a}, {or(a, a, a), a}, {and(a, b, a), and(a, b)}, {or(b, a, b, a), or(b, a)}, {and(b, a, a, b), and(b, a)},
		{and(always, a), a}, {and(a, always), a}, {and(a, always, b), and(a, b)}, {or(never, a), a}, {or(a, never, b, never), or(a, b)},
		{and(never, a), never}, {and(a, b, never), never}, {or(always, a), always}, {or(a, always, b), always},
		{and(always, never), never}, {and(never, always), never}, {or(always, never), always}, {or(never, always), always},
		{and(always, always), always}, {or(never, never, never), never}, {and(never, never), never}, {or(always, always), always},
		{and(a, and(b, c)), and(a, b, c)}, {and(and(a, b), c), and(a, b, c)}, {and(and(a, b), and(c, a)), and(a, b, c)}, {or(or(a, b), or(b, c)), or(a, b, c)},
		{and(and(and(and(a, b), c), d), b), and(a, b, c, d)}, {or(a, or(b, or(c, or(d, a)))), or(a, b, c, d)},
		{and(a, or(b, c)), and(a, or(b, c))}, {or(and(a, b), c), or(and(a, b), c)}, {and(or(a, b), or(a, b)), or(a, b)}, {or(and(a, b), and(b, a)), or(and(a, b), and(b, a))},
		{and(a, or(a, b)), and(a, or(a, b))}, {or(a, and(a, b)), or(a, and(a, b))}, {and(or(a, b), or(a, b, c)), and(or(a, b), or(a, b, c))},
		{and(a, or(b, b)), and(a, b)}, {and(a, or(a, a)), a}, {and(or(and(a, b), and(a, b)), c), and(a, b, c)}, {and(c, or(never, and(a, c))), and(c, a)}, {or(c, and(always, or(a, c)), b), or(c, a, b)},
		{and(a, or(b, always)), a}, {and(a, or(never, never)), never}, {or(a, and(b, never)), a}, {or(a, and(always, always)), always}, {and(or(a, and(b, never)), c), and(a, c)},
		{and(or(a, always), or(b, always)), always}, {or(and(a, never), and(b, never)), never}, {and(or(always, a), never), never},
		{or(and(a, or(b, c)), and(a, or(b, c, b))), and(a, or(b, c))}, {and(or(a, b), and(c, or(a, b))), and(or(a, b), c)}, {and(or(a, and(b, c)), or(a, and(b, and(c, b)))), or(a, and(b, c))},
		{or(and(a, b), and(a, b, always), and(and(a, b), c)), or(and(a, b), and(a, b, c))},
		{deep(40, 0), simplestOf(deep(40, 0))}, {deep(39, 2), simplestOf(deep(39, 2))},
	} {
		if form := regram.Simplify(x.n); !equal(form, x.want) {
			t.Errorf("condition %d: Simplify(%v) is %v, not %v", i, x.n, form, x.want)
		}
	}
	for i, n := range wrong() {
		if form := regram.Simplify(n); !equal(form, never) {
			t.Errorf("Simplify of the wrong condition %d is %v", i, form)
		}
	}
}

// TestSimplifyAlike has conditions that differ in one code, one kind or one border between lists.
func TestSimplifyAlike(t *testing.T) { // P10.5
	a, b, c, d := code(0), code(1), code(256), code(65536)
	for _, l := range [][]api.Need{
		{a, b, c, d, code(257), code(65537), code(65792), code(1<<24 - 1), code(4), code(5), code(3), code(1024), code(1280)},
		{or(a, b), or(b, a), or(a, c), or(a, b, c), or(c, d), or(a, a, d), or(a, d, d, c)},
		{or(and(a, b), c), or(and(a, b, c), d), or(and(a, c), b), or(a, and(b, c)), or(a, b, c), or(and(a, b), and(c, d)), or(and(a, b), c, d), or(and(a, b, d), c)},
		{or(and(or(a, b), c), d), or(and(or(a, b, c), d), a), or(and(or(a, b), c, d), a), or(and(or(a, b), c), d, a), or(and(or(a, and(b, c)), d), a), or(and(a, or(b, c)), d)},
		{or(and(a, b), code(0x030700), c), or(and(a, b, code(0x000307)), c), or(and(a, b), code(0x000307), c)},
	} {
		n := and(slices.Concat(l, l)...)
		form := regram.Simplify(n)
		if !equal(form, simplestOf(n)) || len(form.Subs) != len(l) {
			t.Errorf("Simplify(%v) is %v", n, form)
		}
	}
}

func TestSimplifyByDefinition(t *testing.T) { // P10.5
	r := rand.New(rand.NewSource(12))
	for range 3000 {
		// The codes have the numbers of kinds as bytes.
		l := []api.Need{code(0x030400), code(0x030500), code(0x000304), code(0x040000), code(0x050000), code(0x000500), code(0x030003), code(0x050005), code(5), code(0)}
		n := or()
		for range 3 {
			pick := func() api.Need { return l[r.Intn(len(l))] }
			l = append(l, and(pick(), pick()), or(pick(), pick(), pick()))
			n.Subs = append(n.Subs, and(pick(), pick()), and(pick(), pick(), or(pick(), pick())))
		}
		if form, want := regram.Simplify(n), simplestOf(n); !equal(form, want) {
			t.Fatalf("Simplify(%v) is %v, not %v", n, form, want)
		}
	}
	for _, n := range append(shared(), conditions()...) {
		if form, want := regram.Simplify(n), simplestOf(n); !equal(form, want) {
			t.Fatalf("Simplify(%v) is %v, not %v", n, form, want)
		}
	}
}

// TestSimplest shows that simplest forms are true for the same trigrams, valid, and their own ones.
func TestSimplest(t *testing.T) { // P10.8
	for _, n := range append(shared(), conditions()...) {
		form := regram.Simplify(n)
		for _, codes := range codeLists {
			if holds(n, codes) != holds(form, codes) || regram.Eval(n, codes) != regram.Eval(form, codes) {
				t.Fatalf("%v and its simplest form, %v, are not equally true for %v", n, form, codes)
			}
		}
		if !regram.Right(form) || !equal(regram.Simplify(form), form) || !regram.Same(regram.Simplify(form), form) {
			t.Fatalf("the simplest form of %v, %v, is not valid, or not its own one", n, form)
		}
	}
}

// TestSimplifyMany has so many subs that comparing each with each other one would take too long.
func TestSimplifyMany(t *testing.T) { // P10.5
	const many = 50000
	n, want := or(), or()
	for i := range many {
		n.Subs = append(n.Subs, and(code(many-i), code(many-i), or(code(5), never, code(i))), never, or(code(many-i), code(i)))
	}
	form := regram.Simplify(n)
	if len(form.Subs) < many || form.Kind != api.NeedOr {
		t.Fatalf("%d conditions are left", len(form.Subs))
	}
	seen := map[int]bool{}
	for i := range many {
		pair := []api.Need{code(5), code(i)}
		if i == 5 {
			want.Subs = append(want.Subs, and(code(many-i), code(5)))
		} else {
			want.Subs = append(want.Subs, and(code(many-i), or(pair...)))
		}
		for _, c := range []int{many - i, i} {
			if !seen[c] {
				want.Subs = append(want.Subs, code(c))
			}
			seen[c] = true
		}
	}
	if !equal(form, want) {
		t.Error("the simplest form of many conditions")
	}
}

func TestSame(t *testing.T) { // P10.5
	empty := api.Need{Kind: api.NeedAnd, Subs: []api.Need{}}
	a, b := code(1), code(2)
	all := []api.Need{
		{}, always, never, a, b, and(), or(), and(a), and(a, a), and(a, a, a), and(a, b), and(b, a), or(a, b), and(a, b, b), and(and(a, b), b), and(a, and(b, b)), and(and(a, b, b)),
		{Kind: 6}, {Kind: -1}, {Kind: api.NeedGram, Gram: -1}, {Kind: api.NeedGram, Gram: math.MaxInt}, {Kind: math.MaxInt, Gram: math.MinInt}, {Gram: 1},
		{Kind: api.NeedAll, Gram: 1}, {Kind: api.NeedGram, Gram: 1, Subs: []api.Need{a}}, {Kind: api.NeedGram, Gram: 1, Subs: []api.Need{b}}, {Kind: api.NeedAnd, Gram: 1, Subs: []api.Need{a, b}}, {Kind: api.NeedAnd, Gram: 1 << 32, Subs: []api.Need{a, b}},
		or(and(a, b), and(or(a, b), b)), or(and(a, b), and(or(b, b), b)), or(and(a, b), and(or(a, b), a)), or(and(a, b), and(or(a, b), b), always), or(and(a, b), and(or(a, b, b), b)),
		deep(40, 0), deep(40, 1), deep(41, 0), deep(65536, 0), deep(65535, 0), deep(65536, 2),
	}
	for i, x := range all {
		for k, y := range all {
			if got := regram.Same(x, clonedNeed(y)); got != (i == k) {
				t.Errorf("Same of the conditions %d and %d is %v", i, k, got)
			}
		}
	}
	if !regram.Same(empty, and()) || !regram.Same(and(), empty) || !regram.Same(and(always, empty), and(always, and())) {
		t.Error("an empty list is not equal to one that is nil")
	}
	l := conditions()
	r := rand.New(rand.NewSource(8))
	for range 50000 {
		x, y := l[r.Intn(len(l))], l[r.Intn(len(l))]
		if got := regram.Same(x, y); got != equal(x, y) {
			t.Fatalf("Same(%v, %v) is %v", x, y, got)
		}
	}
}
