package table

import (
	"slices"
	"strings"
	"testing"

	"marlinspike/api"
	"marlinspike/name"
)

func symbols(names ...string) []api.Symbol {
	var l []api.Symbol
	for i, s := range names {
		l = append(l, api.Symbol{Name: s, At: i, Weak: i%2 == 1})
	}
	return l
}

// lists of symbols: none, one, as many as may be, names that are the same, names of one bucket, names that are none.
func lists() [][]api.Symbol {
	return [][]api.Symbol{
		nil,
		symbols("main"),
		symbols("a", "b", "c", "d", "e", "f", "g", "h"),
		symbols("a", "q", "a", "q", "b", "a", "r", "b"),
		symbols("x", "x", "x", "x", "x", "x", "x", "x"),
		symbols("aq", "ba", "bq", "ca"),
		symbols("", "A", "far too long a name", "\xff\xff\xff\xff\xff\xff\xff\xff", ""),
	}
}

func TestC1Example(t *testing.T) {
	// Hashes of one letter are its byte: 97 to 100, and 113.
	got, err := Make(symbols("b", "a", "d", "q", "c"), 4)
	if err != nil {
		t.Fatal(err)
	}
	if want := []int{2, 1, 0, 4}; !slices.Equal(got.First, want) {
		t.Errorf("First: %v, want %v", got.First, want)
	}
	if want := []int{-1, 3, -1, -1, -1}; !slices.Equal(got.Next, want) {
		t.Errorf("Next: %v, want %v", got.Next, want)
	}
}

// TestC1Chains: of each bucket just the symbols that belong to it are on its chain, rising.
func TestC1Chains(t *testing.T) {
	for _, l := range lists() {
		for many := 1; many <= 16; many++ {
			got, err := Make(l, many)
			if err != nil || len(got.First) != many || len(got.Next) != len(l) {
				t.Fatalf("Make(%v, %d): %v, %v", l, many, got, err)
			}
			for b := range many {
				var want, have []int
				for i, s := range l {
					if int(name.Hash(s.Name)%uint32(many)) == b {
						want = append(want, i)
					}
				}
				i := got.First[b]
				for ; i >= 0 && len(have) <= len(l); i = got.Next[i] {
					have = append(have, i)
				}
				if i != -1 || !slices.Equal(have, want) {
					t.Errorf("Make(%v, %d): bucket %d: %v up to %d, want %v up to -1", l, many, b, have, i, want)
				}
			}
		}
	}
}

func TestC1Wrong(t *testing.T) {
	eight, nine := symbols("a", "b", "c", "d", "e", "f", "g", "h"), symbols("a", "b", "c", "d", "e", "f", "g", "h", "i")
	for _, c := range []struct {
		l    []api.Symbol
		many int
		want error
	}{
		{eight, 1, nil},
		{eight, 16, nil},
		{eight, 0, api.ErrBound},
		{eight, 17, api.ErrBound},
		{eight, -1, api.ErrBound},
		{eight, -1 << 31, api.ErrBound},
		{eight, 1<<31 - 1, api.ErrBound},
		{nine, 1, api.ErrMany},
		{nine, 16, api.ErrMany},
		{nine, 0, api.ErrBound},
		{nine, 17, api.ErrBound},
	} {
		got, err := Make(c.l, c.many)
		if err != c.want {
			t.Errorf("Make of %d symbols, %d: %v, want %v", len(c.l), c.many, err, c.want)
		}
		if err != nil && (len(got.First) > 0 || len(got.Next) > 0) {
			t.Errorf("Make of %d symbols, %d: a table beside an error: %v", len(c.l), c.many, got)
		}
	}
}

// TestC2AsOneByOne: a table finds just what a look through the list finds (W6).
func TestC2AsOneByOne(t *testing.T) {
	wanted := []string{"", "a", "b", "h", "i", "q", "x", "main", "aq", "A", "\xff", strings.Repeat("z", 1000)}
	for _, l := range lists() {
		for _, s := range l {
			wanted = append(wanted, s.Name)
		}
	}
	for _, l := range lists() {
		for many := 1; many <= 16; many++ {
			made, err := Make(l, many)
			if err != nil {
				t.Fatal(err)
			}
			for _, s := range wanted {
				want := slices.IndexFunc(l, func(x api.Symbol) bool { return x.Name == s })
				if got := Find(made, l, s); got != want {
					t.Errorf("Find(Make(%v, %d), %q): %d, want %d", l, many, s, got, want)
				}
			}
		}
	}
}

// TestC2OnTheChain: it is the chain of the name's bucket that is gone along, not the list.
func TestC2OnTheChain(t *testing.T) {
	l := symbols("a", "b", "a")
	for _, c := range []struct {
		t    Table
		want int
	}{
		{Table{First: []int{0, 2}, Next: []int{-1, -1, -1}}, 2}, // 97 is of bucket 1
		{Table{First: []int{0, -1}, Next: []int{-1, -1, -1}}, -1},
		{Table{First: []int{1}, Next: []int{-1, 2, 0}}, 2},
	} {
		if got := Find(c.t, l, "a"); got != c.want {
			t.Errorf("Find(%v): %d, want %d", c.t, got, c.want)
		}
	}
}

// TestC2AnyTable: rings, places that there aren't, lists that are too short or too long.
func TestC2AnyTable(t *testing.T) {
	far := []int{-1 << 31, -2, -1, 0, 1, 2, 3, 1<<31 - 1}
	tables := []Table{
		{},
		{First: []int{}, Next: []int{0, 1, 2}},
		{First: []int{0}},
		{First: []int{0}, Next: []int{0, 0, 0}},
		{First: []int{0}, Next: []int{1, 2, 0}},
		{First: []int{1}, Next: []int{1, 1, 1}},
		{First: slices.Repeat([]int{2}, 300), Next: slices.Repeat([]int{1}, 300)},
	}
	for _, a := range far {
		for _, b := range far {
			tables = append(tables, Table{First: []int{a}, Next: []int{b}}, Table{First: []int{a, b}, Next: []int{b, a, b, a, b}})
		}
	}
	for _, l := range [][]api.Symbol{nil, symbols("a"), symbols("a", "b", "c"), symbols("b", "b", "b", "a")} {
		for _, x := range tables {
			for _, s := range []string{"a", "b", "c", "d", ""} {
				if got := Find(x, l, s); got >= 0 && (got >= len(l) || l[got].Name != s) {
					t.Errorf("Find(%v, %v, %q): %d is no symbol of that name", x, l, s, got)
				}
			}
		}
	}
}

// TestZ2: what is handed in stays as it was, and what comes out shares no memory.
func TestZ2(t *testing.T) {
	back := symbols("a", "b", "c", "a", "b")
	was := slices.Clone(back)
	one, _ := Make(back[:3], 4)
	two, _ := Make(back[:3], 4)
	for i := range cap(one.First) {
		one.First[:cap(one.First)][i] = 77
	}
	for i := range cap(one.Next) {
		one.Next[:cap(one.Next)][i] = 88
	}
	if slices.Contains(one.First, 88) || slices.Contains(two.First, 77) || slices.Contains(two.Next, 88) {
		t.Error("lists share memory")
	}
	kept := Table{First: slices.Clone(two.First), Next: slices.Clone(two.Next)}
	if got := Find(two, back[:3], "c"); got != 2 {
		t.Errorf("Find: %d, want 2", got)
	}
	if !slices.Equal(back, was) || !slices.Equal(two.First, kept.First) || !slices.Equal(two.Next, kept.Next) {
		t.Error("what was handed in was written into")
	}
}
