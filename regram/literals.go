package regram

import (
	"slices"

	"codesearch/api"
	"codesearch/regex"
)

// What literals are at most.
const (
	maxStrings = 8
	maxBytes   = 16 // of each string
)

const noBound = -1 // instead of the Max of a repetition if there is none

// literals returns the literals of a valid expression in whose sets each byte is replaced by what change returns for it. An expression without literals has the empty list, as no expression has literals that are no strings at all.
func literals(re api.Regex, change func(c byte) byte) []string {
	var lists [][]string
	for _, sub := range re.Subs {
		lists = append(lists, literals(sub, change))
	}
	switch re.Kind {
	case api.ReSet:
		return bytesOf(re.Set, change)
	case api.ReCat:
		return inOrder(lists)
	case api.ReAlt:
		return oneOf(lists)
	case api.ReRepeat:
		return repeated(lists[0], re.Min, re.Max)
	}
	return nil
}

// bytesOf returns the strings of one byte of what the bytes of a set are replaced by.
func bytesOf(set []api.Range, change func(c byte) byte) []string {
	var list []string
	for i := range 256 {
		if c := byte(i); regex.Has(set, c) {
			list = append(list, string([]byte{change(c)}))
		}
	}
	return different(list)
}

func inOrder(lists [][]string) []string {
	list := emptyString()
	for _, next := range lists {
		list = product(list, next)
	}
	return list
}

func oneOf(lists [][]string) []string {
	list := lists[0]
	for _, next := range lists[1:] {
		list = union(list, next)
	}
	return list
}

// repeated returns the literals of what has the given ones and is repeated at least least and at most most times.
func repeated(once []string, least, most int) []string {
	if most == noBound {
		return nil
	}
	power := emptyString()
	for range least {
		power = product(power, once)
	}
	list := power
	for range most - least {
		power = product(power, once)
		list = union(list, power)
	}
	return list
}

// emptyString returns the list that has the empty string alone.
func emptyString() []string { return []string{""} }

// product returns the product of two lists; the empty list if one of them is empty or the product does not exist.
func product(a, b []string) []string {
	var list []string
	for _, x := range a {
		for _, y := range b {
			if len(x)+len(y) > maxBytes {
				return nil
			}
			list = append(list, x+y)
		}
	}
	return different(list)
}

// union returns the strings of two lists; the empty list if one of them is empty or they are too many.
func union(a, b []string) []string {
	if len(a) == 0 || len(b) == 0 {
		return nil
	}
	return different(slices.Concat(a, b))
}

// different sorts a list and takes each of its strings once; it returns the empty list if they are too many.
func different(list []string) []string {
	slices.Sort(list)
	list = slices.Compact(list)
	if len(list) > maxStrings {
		return nil
	}
	return list
}
