package regex_test

import (
	"math"
	"slices"
	"testing"

	"codesearch/api"
	"codesearch/regex"
)

// changed returns copies of an expression that each differ from it in one field of one node.
func changed(re api.Regex) []api.Regex {
	var l []api.Regex
	add := func(change func(re *api.Regex)) {
		other := cloned(re)
		change(&other)
		l = append(l, other)
	}
	for _, n := range []int{1, -1, 1 << 32, math.MinInt} {
		add(func(re *api.Regex) { re.Kind += n })
		add(func(re *api.Regex) { re.Min += n })
		add(func(re *api.Regex) { re.Max += n })
	}
	add(func(re *api.Regex) { re.Min++; re.Max-- })
	add(func(re *api.Regex) { re.Set = append(re.Set, api.Range{}) })
	add(func(re *api.Regex) {
		re.Set = append(re.Set, re.Set...)
		re.Set = append(re.Set, api.Range{Lo: 7, Hi: 3})
	})
	add(func(re *api.Regex) { re.Subs = append(re.Subs, api.Regex{}) })
	add(func(re *api.Regex) { re.Subs = append([]api.Regex{{}}, re.Subs...) })
	for i := range re.Set {
		add(func(re *api.Regex) { re.Set[i].Lo++ })
		add(func(re *api.Regex) { re.Set[i].Hi-- })
		add(func(re *api.Regex) { re.Set = slices.Delete(re.Set, i, i+1) })
	}
	for i, sub := range re.Subs {
		add(func(re *api.Regex) { re.Subs = slices.Delete(re.Subs, i, i+1) })
		for _, other := range changed(sub) {
			add(func(re *api.Regex) { re.Subs[i] = other })
		}
	}
	return l
}

func TestSame(t *testing.T) { // P8.5
	some := slices.Clone(valid())
	for i, re := range invalid() {
		if i < 30 {
			some = append(some, re)
		}
	}
	for i := 0; i < len(some); i += 7 {
		re := some[i]
		if !regex.Same(re, cloned(re)) || !regex.Same(re, re) {
			t.Fatalf("%v is not the same", re)
		}
		if i%21 != 0 {
			continue
		}
		for _, other := range changed(re) {
			if regex.Same(re, other) || regex.Same(other, re) {
				t.Fatalf("%v and %v are the same", re, other)
			}
		}
	}
	for i := 0; i < len(some); i += 31 {
		for j := 0; j < len(some); j += 5 {
			if got, want := regex.Same(some[i], some[j]), equal(some[i], some[j]); got != want {
				t.Fatalf("Same(%v, %v) is %v", some[i], some[j], got)
			}
		}
	}
}

func TestSameNamed(t *testing.T) { // P8.5
	for _, x := range []struct {
		a, b api.Regex
		want bool
	}{
		{api.Regex{}, api.Regex{}, true},
		{api.Regex{Set: []api.Range{}, Subs: []api.Regex{}}, api.Regex{}, true}, // nil and empty lists
		{cat(), api.Regex{Kind: api.ReCat, Subs: []api.Regex{}}, true},
		{cat(cat()), cat(api.Regex{Kind: api.ReCat, Set: []api.Range{}}), true},
		{set(), api.Regex{Kind: api.ReSet, Set: []api.Range{}}, true},
		{begin(), end(), false},
		{cat(), alt(), false},
		{letters("ab"), alt(one('a'), one('b')), false},
		{one('a'), one('a'), true},
		{one('a'), one('b'), false},
		{one('a'), cat(one('a')), false},
		{set('a', 'b'), set('a', 'c'), false},
		{set('a', 'c'), set('b', 'c'), false},
		{set('a', 'b'), set('b', 'a'), false},
		{set('a', 'b'), set('a', 'a', 'b', 'b'), false}, // the same bytes
		{set('a', 'a', 'b', 'b'), set('b', 'b', 'a', 'a'), false},
		{set('a', 'a'), set('a', 'a', 'a', 'a'), false},
		{set('b', 'a'), set('b', 'a'), true}, // not valid
		{set('b', 'a'), set('c', 'a'), false},
		{rep(one('a'), 1, 2), rep(one('a'), 1, 2), true},
		{rep(one('a'), 1, 2), rep(one('a'), 2, 2), false},
		{rep(one('a'), 1, 2), rep(one('a'), 1, 3), false},
		{rep(one('a'), 1, 2), rep(one('a'), 2, 1), false},
		{rep(one('a'), 1, 2), rep(one('b'), 1, 2), false},
		{rep(one('a'), 0, -1), rep(one('a'), 0, math.MaxInt), false},
		{api.Regex{Kind: 99, Min: math.MinInt, Max: math.MaxInt}, api.Regex{Kind: 99, Min: math.MinInt, Max: math.MaxInt}, true},
		{api.Regex{Kind: 99}, api.Regex{Kind: -99}, false},
		{api.Regex{Kind: 1}, api.Regex{Kind: 1 + 1<<32}, false},
		{api.Regex{Min: 1}, api.Regex{Max: 1}, false},
		{letters("ab"), letters("ba"), false},
		{letters("ab"), letters("abc"), false},
		{letters("abc"), letters("ab"), false},
		{letters("ab"), letters("ac"), false},
		{cat(cat(), one('a')), cat(one('a'), cat()), false},
		{cat(letters("ab"), one('c')), cat(one('a'), letters("bc")), false},
		{cat(letters("ab"), one('c')), letters("abc"), false},
		{nested(11, one('a')), nested(11, one('a')), true},
		{nested(11, one('a')), nested(11, one('b')), false},
		{nested(11, one('a')), nested(10, one('a')), false},
		{nested(60000, one('a')), nested(60000, one('a')), true},
		{nested(60000, one('a')), nested(60000, one('b')), false},
	} {
		if got, back := regex.Same(x.a, x.b), regex.Same(x.b, x.a); got != x.want || back != x.want {
			t.Errorf("Same(%v, %v) is %v and %v", x.a, x.b, got, back)
		}
	}
}

func TestHas(t *testing.T) { // P8.5
	edges := []byte{0, 1, 'a', 'b', 'c', 127, 128, 254, 255}
	lists := [][]api.Range{nil, {}}
	for _, a := range edges {
		for _, b := range edges {
			lists = append(lists, set(a, b).Set, set('x', 'y', a, b).Set, set(a, b, 'x', 'y').Set, set(b, a, a, b).Set, set(a, a, b, b).Set, set(1, 0, a, b, 255, 254).Set)
		}
	}
	for _, l := range lists {
		in := bytesOf(l)
		for c := range 256 {
			if got := regex.Has(l, byte(c)); got != in[c] {
				t.Errorf("Has(%v, %d) is %v", l, c, got)
			}
		}
	}
}

func TestHasNamed(t *testing.T) { // P8.5
	for _, x := range []struct {
		set  []api.Range
		c    byte
		want bool
	}{
		{nil, 0, false},
		{[]api.Range{}, 'a', false},
		{[]api.Range{{}}, 0, true},
		{[]api.Range{{}}, 1, false},
		{[]api.Range{{}}, 255, false},
		{set(255, 255).Set, 255, true},
		{set(255, 255).Set, 0, false},
		{set(255, 255).Set, 254, false},
		{set(0, 255).Set, 0, true},
		{set(0, 255).Set, 255, true},
		{set(0, 255).Set, 128, true},
		{set('b', 'd').Set, 'a', false},
		{set('b', 'd').Set, 'b', true},
		{set('b', 'd').Set, 'c', true},
		{set('b', 'd').Set, 'd', true},
		{set('b', 'd').Set, 'e', false},
		{set('d', 'b').Set, 'b', false}, // reversed
		{set('d', 'b').Set, 'c', false},
		{set('d', 'b').Set, 'd', false},
		{set(255, 0).Set, 0, false},
		{set(255, 0).Set, 255, false},
		{set('d', 'b', 'c', 'c').Set, 'c', true},
		{set('x', 'z', 'a', 'c').Set, 'b', true},
		{set('x', 'z', 'a', 'c').Set, 'y', true},
		{set('x', 'z', 'a', 'c').Set, 'm', false},
		{set(0, 1, 254, 255).Set, 255, true},
		{set(0, 1, 254, 255).Set, 2, false},
	} {
		if got := regex.Has(x.set, x.c); got != x.want {
			t.Errorf("Has(%v, %d) is %v", x.set, x.c, got)
		}
	}
}
