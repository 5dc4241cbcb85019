package place

import (
	"math"
	"slices"
	"testing"

	"marlinspike/api"
)

func TestF1Round(t *testing.T) {
	for _, c := range [][2]int{{0, 0}, {1, 16}, {15, 16}, {16, 16}, {17, 32}, {32, 32}, {40, 48}, {255, 256}, {256, 256}, {257, 272}, {1000, 1008}} {
		if got := Round(c[0]); got != c[1] {
			t.Errorf("Round(%d): %d, want %d", c[0], got, c[1])
		}
	}
	for n := range 1001 {
		if got := Round(n); got%api.Page != 0 || got < n || got-api.Page >= n {
			t.Errorf("Round(%d): %d", n, got)
		}
	}
}

// have: a range has that place.
func have(r api.Range, at int) bool { return at >= r.From && at < r.From+r.Many }

// meet: is there a place from -300 to 600 that both have? One by one.
func meet(a, b api.Range) bool {
	for at := -300; at <= 600; at++ {
		if have(a, at) && have(b, at) {
			return true
		}
	}
	return false
}

func TestF1Apart(t *testing.T) {
	for _, c := range []struct {
		a, b api.Range
		want bool
	}{
		{api.Range{From: 0, Many: 16}, api.Range{From: 16, Many: 16}, true},
		{api.Range{From: 0, Many: 17}, api.Range{From: 16, Many: 16}, false},
		{api.Range{From: 5, Many: 1}, api.Range{From: 5, Many: 1}, false},
		{api.Range{From: 5, Many: 1}, api.Range{From: 6, Many: 1}, true},
		{api.Range{From: 0, Many: 100}, api.Range{From: 40, Many: 1}, false},
		{api.Range{From: 0, Many: 100}, api.Range{From: 40, Many: 0}, true}, // none has no place, also amidst another one
		{api.Range{From: 0, Many: 100}, api.Range{From: 40, Many: -1}, true},
		{api.Range{From: 0, Many: 100}, api.Range{From: 100, Many: -50}, true},
		{api.Range{From: 7, Many: 0}, api.Range{From: 7, Many: 0}, true},
		{api.Range{From: -300, Many: 300}, api.Range{From: 0, Many: 300}, true},
		{api.Range{From: -300, Many: 300}, api.Range{From: -1, Many: 300}, false},
		{api.Range{From: -300, Many: -300}, api.Range{From: -300, Many: 300}, true},
		{api.Range{From: 300, Many: 300}, api.Range{From: 300, Many: 300}, false},
	} {
		if got := Apart(c.a, c.b); got != c.want {
			t.Errorf("Apart(%v, %v): %v", c.a, c.b, got)
		}
		if got := Apart(c.b, c.a); got != c.want {
			t.Errorf("Apart(%v, %v): %v", c.b, c.a, got)
		}
	}
}

func TestF1ApartOneByOne(t *testing.T) {
	var l []api.Range
	for _, from := range []int{-300, -299, -3, -1, 0, 1, 2, 5, 299, 300} {
		for _, many := range []int{-300, -1, 0, 1, 2, 3, 5, 299, 300} {
			l = append(l, api.Range{From: from, Many: many})
		}
	}
	for _, a := range l {
		for _, b := range l {
			if got, want := Apart(a, b), !meet(a, b); got != want {
				t.Errorf("Apart(%v, %v): %v", a, b, got)
			}
		}
	}
}

// TestZ1: numbers of which nothing is said are answered too.
func TestZ1(t *testing.T) {
	far := []int{math.MinInt, math.MinInt + 1, -301, 0, 301, math.MaxInt - 1, math.MaxInt}
	for _, a := range far {
		Round(a)
		for _, b := range far {
			one, two := api.Range{From: a, Many: b}, api.Range{From: b, Many: a}
			Apart(one, two)
			if a == 0 && b == 0 {
				continue
			}
			refuses(t, []int{a, b}, nil, api.ErrBound)
			refuses(t, nil, []api.Range{one}, api.ErrBound)
		}
	}
}

// refuses: that error, and nothing beside it.
func refuses(t *testing.T, sizes []int, taken []api.Range, want error) {
	t.Helper()
	if got, err := Bases(sizes, taken); err != want || len(got) > 0 {
		t.Errorf("Bases(%v, %v): %v, %v, want %v", sizes, taken, got, err, want)
	}
}

// lays: just there, and no error.
func lays(t *testing.T, sizes []int, taken []api.Range, want ...int) {
	t.Helper()
	if got, err := Bases(sizes, taken); err != nil || !slices.Equal(got, want) {
		t.Errorf("Bases(%v, %v): %v, %v, want %v", sizes, taken, got, err, want)
	}
}

func TestF2NothingTaken(t *testing.T) {
	lays(t, nil, nil)
	lays(t, []int{3, 2}, nil, 0, 16)
	lays(t, []int{1, 16, 17, 1}, nil, 0, 16, 32, 64)
	lays(t, []int{40, 40, 40, 40, 40, 16}, nil, 0, 48, 96, 144, 192, 240) // up to the window's end
	lays(t, []int{16, 40, 40, 40, 40, 40}, nil, 0, 16, 64, 112, 160, 208)
	refuses(t, []int{40, 40, 40, 40, 40, 17}, nil, api.ErrFull)
	refuses(t, []int{17, 40, 40, 40, 40, 40}, nil, api.ErrFull)
}

func TestF2Taken(t *testing.T) {
	from := func(from, many int) []api.Range { return []api.Range{{From: from, Many: many}} }
	lays(t, []int{1}, from(0, 1), 16)
	lays(t, []int{1}, from(15, 1), 16)
	lays(t, []int{1}, from(15, 2), 32)
	lays(t, []int{1}, from(16, 1), 0)
	lays(t, []int{17}, from(16, 1), 32)
	lays(t, []int{17}, from(31, 1), 32) // a page as a whole, though none of the object's words lies there
	lays(t, []int{17, 1, 1}, from(16, 16), 32, 0, 64)
	lays(t, []int{40}, from(8, 0), 0)     // none is taken
	lays(t, []int{40}, from(256, 256), 0) // beyond the window
	lays(t, []int{40}, from(0, 208), 208)
	refuses(t, []int{40}, from(0, 209), api.ErrFull)
	lays(t, []int{16}, from(0, 240), 240)
	refuses(t, []int{1}, from(0, 241), api.ErrFull)
	refuses(t, []int{1}, from(0, 256), api.ErrFull)
	lays(t, nil, from(0, 256))
	refuses(t, []int{40, 40, 40, 40, 40, 16}, from(255, 1), api.ErrFull)
	lays(t, []int{40, 40, 40, 40, 40}, from(255, 1), 0, 48, 96, 144, 192)
	lays(t, []int{33, 20, 1}, []api.Range{{From: 100, Many: 10}, {From: 20, Many: 30}, {From: 25, Many: 3}}, 112, 64, 0)
}

func TestF2Many(t *testing.T) {
	one := api.Range{From: 17, Many: 3}
	lays(t, slices.Repeat([]int{1}, api.MaxFiles), nil, 0, 16, 32, 48, 64, 80)
	refuses(t, slices.Repeat([]int{1}, api.MaxFiles+1), nil, api.ErrMany)
	lays(t, []int{17}, slices.Repeat([]api.Range{one}, 20), 32)
	refuses(t, []int{17}, slices.Repeat([]api.Range{one}, 21), api.ErrMany)
	refuses(t, nil, slices.Repeat([]api.Range{{}}, 21), api.ErrMany)
	last := append(slices.Repeat([]api.Range{{}}, 19), api.Range{From: 0, Many: 16})
	lays(t, []int{1}, last, 16)
	// Told ahead of what is said of the numbers.
	refuses(t, slices.Repeat([]int{0}, api.MaxFiles+1), nil, api.ErrMany)
	refuses(t, []int{0}, slices.Repeat([]api.Range{{From: -1}}, 21), api.ErrMany)
}

func TestF2Bound(t *testing.T) {
	for _, n := range []int{math.MinInt, -1, 0, api.MaxWords + 1, math.MaxInt} {
		refuses(t, []int{n}, nil, api.ErrBound)
		refuses(t, []int{1, 2, n}, nil, api.ErrBound)
	}
	lays(t, []int{1, api.MaxWords, 1}, nil, 0, 16, 64)
	for _, n := range []int{math.MinInt, -1, api.Window + 1, math.MaxInt} {
		refuses(t, []int{1}, []api.Range{{From: n}}, api.ErrBound)
		refuses(t, []int{1}, []api.Range{{Many: n}}, api.ErrBound)
		refuses(t, nil, []api.Range{{From: 1, Many: 1}, {From: 3, Many: n}}, api.ErrBound)
	}
	lays(t, []int{1}, []api.Range{{From: api.Window, Many: api.Window}, {From: 0, Many: 0}}, 0)
	// Told ahead of there being no room.
	whole := []api.Range{{From: 0, Many: api.Window}}
	refuses(t, []int{1, 41}, whole, api.ErrBound)
	refuses(t, []int{1}, append(whole, api.Range{From: 257}), api.ErrBound)
	refuses(t, []int{40, 40, 40, 40, 40, 40}, []api.Range{{Many: -1}}, api.ErrBound)
}

// dice: numbers that look drawn, the same each time.
func dice(seed uint32) func(most int) int {
	return func(most int) int {
		seed = seed*1664525 + 1013904223
		return int(seed>>8) % most
	}
}

// window: which words are taken?
type window [2 * api.Window]bool

func (w *window) take(from, many int) {
	for at := from; at < from+many; at++ {
		w[at] = true
	}
}

// free: are these words within the window, and none of them taken?
func (w *window) free(from, many int) bool {
	return from+many <= api.Window && !slices.Contains(w[from:from+many], true)
}

// byWords: what Bases should answer, by a look at each word.
func byWords(sizes []int, taken []api.Range) ([]int, error) {
	var w window
	for _, r := range taken {
		w.take(r.From, r.Many)
	}
	var bases []int
	for _, n := range sizes {
		from, pages := 0, (n+15)/16
		for from < api.Window && !w.free(from, 16*pages) {
			from += 16
		}
		if from >= api.Window {
			return nil, api.ErrFull
		}
		w.take(from, 16*pages)
		bases = append(bases, from)
	}
	return bases, nil
}

// TestW3Places: on pages, apart, each at the least place.
func TestW3Places(t *testing.T) {
	draw, fulls := dice(6), 0
	for range 3000 {
		var sizes []int
		var taken []api.Range
		for range draw(api.MaxFiles + 1) {
			sizes = append(sizes, 1+draw(api.MaxWords))
		}
		for range draw(8) {
			taken = append(taken, api.Range{From: draw(api.Window + 1), Many: draw(20)})
		}
		want, err := byWords(sizes, taken)
		if err != nil {
			fulls++
			refuses(t, sizes, taken, err)
			continue
		}
		lays(t, sizes, taken, want...)
	}
	if fulls < 100 || fulls > 2900 {
		t.Errorf("%d of 3000 have no room: a draw that tells little", fulls)
	}
}

// TestZ2: what is handed in stays as it was, what comes out is the caller's.
func TestZ2(t *testing.T) {
	sizes, taken := []int{17, 1, 5, 77}, []api.Range{{From: 16, Many: 1}, {From: 70, Many: 2}, {From: -5, Many: -5}, {From: 999}}
	sizesWere, takenWere := slices.Clone(sizes), slices.Clone(taken)
	one, err := Bases(sizes[:3], taken[:2]) // what stands behind the lists would be refused
	if err != nil || !slices.Equal(one, []int{32, 0, 80}) {
		t.Fatalf("Bases: %v, %v", one, err)
	}
	two, _ := Bases(sizes[:3], taken[:2])
	for i := range one[:cap(one)] {
		one[:cap(one)][i] = 7
	}
	if !slices.Equal(two, []int{32, 0, 80}) {
		t.Error("two answers share memory")
	}
	if !slices.Equal(sizes, sizesWere) || !slices.Equal(taken, takenWere) {
		t.Error("what was handed in was written into")
	}
}
