// Package table: symbols by their hashes.
package table

import (
	"slices"

	"marlinspike/api"
	"marlinspike/name"
)

const maxBuckets = 16

// none: where a chain ends.
const none = -1

// Table of symbols: of each bucket the first one, of each the next one; -1: there is none.
type Table struct{ First, Next []int }

// Make a table of so many buckets.
func Make(l []api.Symbol, many int) (Table, error) {
	if many < 1 || many > maxBuckets {
		return Table{}, api.ErrBound
	}
	if len(l) > api.MaxSymbols {
		return Table{}, api.ErrMany
	}
	t := Table{First: slices.Repeat([]int{none}, many), Next: make([]int, len(l))}
	// Each is put ahead of its chain: from the last one on, so that chains rise.
	for i := len(l) - 1; i >= 0; i-- {
		b := bucket(l[i].Name, many)
		t.Next[i] = t.First[b]
		t.First[b] = i
	}
	return t, nil
}

// Find a symbol by a table of its list; below 0: there is none.
func Find(t Table, l []api.Symbol, s string) int {
	if len(t.First) == 0 {
		return none
	}
	head := t.First[bucket(s, len(t.First))]
	return along(t.Next, head, len(l), func(i int) bool { return l[i].Name == s })
}

// along a chain of so many symbols, from i on: the first one that it is.
func along(next []int, i, many int, is func(i int) bool) int {
	// A table that Make didn't make of the list may lead in a ring, or out of
	// the list; one that it made has no chain of more links than symbols.
	for range many {
		if i < 0 || i >= many {
			return none
		}
		if is(i) {
			return i
		}
		if i >= len(next) {
			return none
		}
		i = next[i]
	}
	return none
}

// bucket of a name, of so many; a hash has 28 bits, so it is no int below 0.
func bucket(s string, many int) int { return int(name.Hash(s)) % many }
