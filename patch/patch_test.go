package patch

import (
	"math"
	"slices"
	"testing"

	"marlinspike/api"
	"marlinspike/object"
	"marlinspike/scope"
)

const least, most = -api.MaxWord - 1, api.MaxWord

// having: an object of as many words as may be, with these symbols.
func having(symbols ...api.Symbol) api.Object {
	return api.Object{Words: make([]int, api.MaxWords), Symbols: symbols}
}

// tied: an object of as many words as may be, with these ties.
func tied(ties ...api.Tie) api.Object {
	return api.Object{Words: make([]int, api.MaxWords), Ties: ties}
}

func base(at, add int) api.Tie { return api.Tie{At: at, Kind: api.Base, Add: add} }

func whole(at, add int, name string) api.Tie {
	return api.Tie{At: at, Kind: api.Whole, Add: add, Name: name}
}

func near(at, add int, name string) api.Tie {
	return api.Tie{At: at, Kind: api.Near, Add: add, Name: name}
}

func weak(t api.Tie) api.Tie {
	t.Weak = true
	return t
}

// gives: just these patches, of objects that may be.
func gives(t *testing.T, l []api.Object, bases []int, want ...api.Patch) {
	t.Helper()
	for _, o := range l {
		if err := object.Check(o); err != nil {
			t.Fatalf("%v may not be: %v", o, err)
		}
	}
	if got, err := All(l, bases); err != nil || !slices.Equal(got, want) {
		t.Errorf("All(%v, %v): %v, %v, want %v", l, bases, got, err, want)
	}
}

// refuses: that error, and nothing beside it.
func refuses(t *testing.T, l []api.Object, bases []int, want error) {
	t.Helper()
	if got, err := All(l, bases); err != want || len(got) > 0 {
		t.Errorf("All(%v, %v): %v, %v, want %v", l, bases, got, err, want)
	}
}

// example: the document's objects.
func example() []api.Object {
	return []api.Object{{
		Needs: []string{"libc"}, Words: []int{0, 0, 0},
		Symbols: []api.Symbol{{Name: "main"}},
		Ties:    []api.Tie{whole(0, 0, "print"), weak(whole(1, 0, "missing")), near(2, 0, "print")},
	}, {
		Words:   []int{11, 22},
		Symbols: []api.Symbol{{Name: "print", At: 1}, {Name: "hook", Weak: true}},
		Ties:    []api.Tie{base(0, 5)},
	}}
}

func TestG1Example(t *testing.T) {
	gives(t, example(), []int{0, 16}, api.Patch{Part: 0, At: 0, Word: 17}, api.Patch{Part: 0, At: 1, Word: 0},
		api.Patch{Part: 0, At: 2, Word: 15}, api.Patch{Part: 1, At: 0, Word: 21})
}

func TestG1Kinds(t *testing.T) {
	lib := having(api.Symbol{Name: "x", At: 7}, api.Symbol{Name: "y", At: 39, Weak: true})
	for _, c := range []struct {
		tie  api.Tie
		want int
	}{
		{base(3, 0), 32},
		{base(3, 100), 132},
		{base(3, -100), -68},
		{whole(3, 0, "x"), 103},
		{whole(3, -104, "x"), -1},
		{weak(whole(3, 5, "x")), 108}, // a weak tie is tied to who has it, as others are
		{whole(3, 0, "y"), 135},       // a weak symbol is one
		{near(3, 0, "x"), 68},         // 103 less 32 less 3
		{near(3, -70, "x"), -2},
		{weak(near(3, 1, "x")), 69},
		{near(39, 0, "x"), 32},
		{weak(whole(3, 0, "nobody")), 0},
		{weak(whole(3, -9, "nobody")), -9},
		{weak(near(3, 0, "nobody")), -35}, // 0 less 32 less 3
		{weak(near(3, 50, "nobody")), 15},
	} {
		gives(t, []api.Object{tied(c.tie), lib}, []int{32, 96}, api.Patch{Part: 0, At: c.tie.At, Word: c.want})
		gives(t, []api.Object{lib, tied(c.tie)}, []int{96, 32}, api.Patch{Part: 1, At: c.tie.At, Word: c.want})
	}
}

func TestG1WhoHasIt(t *testing.T) {
	tie := tied(whole(0, 0, "x"))
	strong := func(at int) api.Object { return having(api.Symbol{Name: "x", At: at}) }
	lazy := func(at int) api.Object { return having(api.Symbol{Name: "x", At: at, Weak: true}) }
	word := func(n int) api.Patch { return api.Patch{Word: n} }
	gives(t, []api.Object{tie, strong(1), strong(2)}, []int{0, 48, 96}, word(49))
	gives(t, []api.Object{tie, lazy(1), strong(2)}, []int{0, 48, 96}, word(98))
	gives(t, []api.Object{tie, strong(1), lazy(2)}, []int{0, 48, 96}, word(49))
	gives(t, []api.Object{tie, lazy(1), lazy(2)}, []int{0, 48, 96}, word(49))
	own := tied(whole(0, 0, "x"), near(5, 0, "x"))
	own.Symbols = []api.Symbol{{Name: "x", At: 9}}
	gives(t, []api.Object{own, strong(1)}, []int{32, 0}, word(41), api.Patch{At: 5, Word: 4})
	own.Symbols[0].Weak = true
	gives(t, []api.Object{own, strong(1)}, []int{32, 0}, word(1), api.Patch{At: 5, Word: -36})
}

func TestG1Order(t *testing.T) {
	l := []api.Object{tied(base(1, 0), base(4, 1)), having(), tied(base(0, 2), base(39, 3))}
	gives(t, l, []int{10, 20, 5}, api.Patch{Part: 0, At: 1, Word: 10}, api.Patch{Part: 0, At: 4, Word: 11},
		api.Patch{Part: 2, At: 0, Word: 7}, api.Patch{Part: 2, At: 39, Word: 8})
	gives(t, nil, nil)
	gives(t, []api.Object{having(), having()}, []int{0, 0})
}

func TestG1Bases(t *testing.T) {
	one := []api.Object{having()}
	loose := []api.Object{tied(whole(0, 0, "nobody"))}
	for _, bases := range [][]int{nil, {0, 0}, {-1, 257}} {
		refuses(t, one, bases, api.ErrShape)
		refuses(t, loose, bases, api.ErrShape)
	}
	refuses(t, nil, []int{0}, api.ErrShape)
	refuses(t, nil, []int{-1}, api.ErrShape) // named first
	for _, b := range []int{math.MinInt, -1, api.Window + 1, math.MaxInt} {
		refuses(t, one, []int{b}, api.ErrBound)
		refuses(t, loose, []int{b}, api.ErrBound)
		refuses(t, append(loose, having()), []int{0, b}, api.ErrBound)
	}
	for _, b := range []int{0, 1, api.Window} { // also where no page begins
		gives(t, []api.Object{tied(base(0, 0))}, []int{b}, api.Patch{Word: b})
	}
}

func TestG1Loose(t *testing.T) {
	lib := having(api.Symbol{Name: "x"})
	for _, tie := range []api.Tie{whole(0, 0, "y"), near(0, 0, "y"), whole(0, most, "y"), near(0, most, "y")} {
		refuses(t, []api.Object{tied(tie), lib}, []int{0, 48}, api.ErrLoose)
		refuses(t, []api.Object{lib, tied(base(0, 0)), tied(tie)}, []int{0, 48, 96}, api.ErrLoose)
	}
	weakly := []api.Object{tied(weak(whole(0, 0, "y")), whole(1, 0, "y")), lib}
	refuses(t, weakly, []int{0, 48}, api.ErrLoose) // one that is weak frees no other one
}

func TestG1MaxNear(t *testing.T) {
	l := func(tie api.Tie) []api.Object { return []api.Object{tied(tie), having(api.Symbol{Name: "x", At: 10})} }
	bases := []int{64, 128} // x lies at 138; at 4 of the first one that is 70 far
	gives(t, l(near(4, 430, "x")), bases, api.Patch{At: 4, Word: api.MaxNear})
	refuses(t, l(near(4, 431, "x")), bases, api.ErrFar)
	gives(t, l(near(4, -570, "x")), bases, api.Patch{At: 4, Word: -api.MaxNear})
	refuses(t, l(near(4, -571, "x")), bases, api.ErrFar)
	refuses(t, l(near(4, most, "x")), bases, api.ErrFar)
	refuses(t, l(near(4, least, "x")), bases, api.ErrFar)
	gives(t, l(weak(near(4, 568, "y"))), bases, api.Patch{At: 4, Word: api.MaxNear})
	refuses(t, l(weak(near(4, 569, "y"))), bases, api.ErrFar)
	gives(t, l(weak(near(4, -432, "y"))), bases, api.Patch{At: 4, Word: -api.MaxNear})
	refuses(t, l(weak(near(4, -433, "y"))), bases, api.ErrFar)
	for _, add := range []int{501, 600, -600} { // what isn't near may be farther
		gives(t, l(base(4, add)), bases, api.Patch{At: 4, Word: 64 + add})
		gives(t, l(whole(4, add, "x")), bases, api.Patch{At: 4, Word: 138 + add})
	}
}

func TestG1MaxWord(t *testing.T) {
	l := func(tie api.Tie) []api.Object { return []api.Object{tied(tie), having(api.Symbol{Name: "x", At: 10})} }
	bases := []int{64, 128}
	gives(t, l(base(0, most-64)), bases, api.Patch{Word: most})
	refuses(t, l(base(0, most-63)), bases, api.ErrFar)
	refuses(t, l(base(0, most)), bases, api.ErrFar)
	gives(t, l(base(0, most)), []int{0, 0}, api.Patch{Word: most})
	gives(t, l(base(0, least)), []int{0, 0}, api.Patch{Word: least})
	gives(t, l(base(0, least)), bases, api.Patch{Word: least + 64})
	gives(t, l(whole(0, most-138, "x")), bases, api.Patch{Word: most})
	refuses(t, l(whole(0, most-137, "x")), bases, api.ErrFar)
	gives(t, l(whole(0, least, "x")), bases, api.Patch{Word: least + 138})
	gives(t, l(weak(whole(0, most, "y"))), bases, api.Patch{Word: most})
	gives(t, l(weak(whole(0, least, "y"))), bases, api.Patch{Word: least})
}

// TestG1First: of several errors the first tie's is told.
func TestG1First(t *testing.T) {
	loose, far := whole(0, 0, "nobody"), base(0, most)
	behind := func(tie api.Tie) api.Tie {
		tie.At = 1
		return tie
	}
	refuses(t, []api.Object{tied(loose, behind(far))}, []int{16}, api.ErrLoose)
	refuses(t, []api.Object{tied(far, behind(loose))}, []int{16}, api.ErrFar)
	refuses(t, []api.Object{tied(loose), tied(far)}, []int{16, 16}, api.ErrLoose)
	refuses(t, []api.Object{tied(far), tied(loose)}, []int{16, 16}, api.ErrFar)
	refuses(t, []api.Object{tied(near(0, most, "nobody"))}, []int{16}, api.ErrLoose)
}

// TestZ1: objects that may not be are answered too.
func TestZ1(t *testing.T) {
	far := []int{math.MinInt, least - 1, -1, 0, 41, most + 1, math.MaxInt}
	for kind := -1; kind <= 4; kind++ {
		for _, a := range far {
			for _, b := range far {
				o := api.Object{Symbols: []api.Symbol{{Name: "", At: a}}, Ties: []api.Tie{{At: b, Kind: kind, Add: a}, {At: a, Kind: kind, Add: b, Name: "?"}}}
				if got, err := All([]api.Object{o, {}}, []int{256, 0}); err != nil && len(got) > 0 {
					t.Errorf("patches beside an error: %v, %v", got, err)
				}
			}
		}
	}
}

func equal(a, b [][]int) bool { return slices.EqualFunc(a, b, slices.Equal) }

func TestG2Put(t *testing.T) {
	for _, c := range []struct {
		words [][]int
		l     []api.Patch
		want  [][]int
	}{
		{nil, nil, nil},
		{[][]int{{1, 2}, {}, {3}}, nil, [][]int{{1, 2}, {}, {3}}},
		{[][]int{{1, 2}, {3}}, []api.Patch{{Part: 0, At: 1, Word: 9}}, [][]int{{1, 9}, {3}}},
		{[][]int{{1, 2}, {3}}, []api.Patch{{Part: 1, At: 0, Word: -9}, {Part: 0, At: 0, Word: 8}}, [][]int{{8, 2}, {-9}}},
		// Of several patches of one word the last one holds.
		{[][]int{{1, 2}, {3}}, []api.Patch{{At: 1, Word: 5}, {At: 1, Word: 6}}, [][]int{{1, 6}, {3}}},
		{[][]int{{1, 2}, {3}}, []api.Patch{{At: 1, Word: 6}, {Part: 1, Word: 7}, {At: 1, Word: 5}}, [][]int{{1, 5}, {7}}},
		{[][]int{{1}}, []api.Patch{{Word: 6}, {Word: 5}, {Word: 1}}, [][]int{{1}}},
		// Also to what is no word.
		{[][]int{{math.MaxInt, 2}}, []api.Patch{{At: 1, Word: math.MinInt}}, [][]int{{math.MaxInt, math.MinInt}}},
	} {
		if got, err := Put(c.words, c.l); err != nil || !equal(got, c.want) {
			t.Errorf("Put(%v, %v): %v, %v, want %v", c.words, c.l, got, err, c.want)
		}
	}
}

func TestG2Bound(t *testing.T) {
	words := [][]int{{1, 2}, {}, {3, 4, 5}}
	good := api.Patch{Part: 2, At: 2, Word: 9}
	for _, p := range []api.Patch{
		{Part: -1}, {Part: 3}, {Part: math.MinInt}, {Part: math.MaxInt}, {Part: 3, At: 50},
		{Part: 0, At: -1}, {Part: 0, At: 2}, {Part: 1, At: 0}, {Part: 2, At: 3},
		{Part: 2, At: math.MinInt}, {Part: 2, At: math.MaxInt},
	} {
		for _, l := range [][]api.Patch{{p}, {good, p}, {p, good}, {good, good, p, good}} {
			if got, err := Put(words, l); err != api.ErrBound || len(got) > 0 {
				t.Errorf("Put(%v): %v, %v, want %v", l, got, err, api.ErrBound)
			}
		}
		if got, err := Put(nil, []api.Patch{p}); err != api.ErrBound || len(got) > 0 {
			t.Errorf("Put(nil, %v): %v, %v, want %v", p, got, err, api.ErrBound)
		}
	}
	if !equal(words, [][]int{{1, 2}, {}, {3, 4, 5}}) {
		t.Error("Put wrote into what it was given")
	}
}

// dice: numbers that look drawn, the same each time.
func dice(seed uint32) func(most int) int {
	return func(most int) int {
		seed = seed*1664525 + 1013904223
		return int(seed>>8) % most
	}
}

// drawn: an object that may be, of whose ties those to "nobody" are weak.
func drawn(draw func(int) int) api.Object {
	o := api.Object{Words: make([]int, 6+draw(35))}
	for _, s := range []string{"x", "y", "z"} {
		if draw(2) == 0 {
			o.Symbols = append(o.Symbols, api.Symbol{Name: s, At: draw(len(o.Words)), Weak: draw(2) == 0})
		}
	}
	for at := range draw(api.MaxTies + 1) {
		tie := api.Tie{At: at, Kind: 1 + draw(3), Add: draw(200) - 100}
		if tie.Kind != api.Base {
			tie.Name = []string{"x", "y", "z", "nobody"}[draw(4)]
			tie.Weak = draw(2) == 0 || tie.Name == "nobody"
		}
		o.Ties = append(o.Ties, tie)
	}
	return o
}

// farther: by how much is that tie's word more, if all lie farther by so much?
func farther(l []api.Object, tie api.Tie, by int) int {
	in, _ := scope.Find(l, tie.Name)
	fixed := tie.Kind != api.Base && in < 0 // it lies at 0, wherever all others lie
	switch {
	case tie.Kind == api.Near && fixed:
		return -by
	case tie.Kind == api.Near || fixed:
		return 0
	}
	return by
}

// TestW3Farther: where all lie farther by as much, all that hangs on that is farther by as much.
func TestW3Farther(t *testing.T) {
	draw, tried := dice(7), 0
	for range 2000 {
		var l []api.Object
		var bases, more []int
		by := draw(api.Window / 2)
		for range 1 + draw(6) {
			l = append(l, drawn(draw))
			bases = append(bases, draw(api.Window/2))
			more = append(more, bases[len(bases)-1]+by)
		}
		one, err := All(l, bases)
		two, err2 := All(l, more)
		if err != err2 || len(one) != len(two) {
			t.Fatalf("All(%v): %v at %v, %v at %v", l, err, bases, err2, more)
		}
		for i, k := 0, 0; i < len(l) && err == nil; i++ {
			for _, tie := range l[i].Ties {
				want := one[k]
				want.Word += farther(l, tie, by)
				if two[k] != want || want.Part != i || want.At != tie.At {
					t.Errorf("All(%v): at %v %v, at %v %v: patch %d", l, bases, one, more, two, k)
				}
				k++
				tried++
			}
		}
	}
	if tried < 1000 {
		t.Errorf("%d ties: a draw that tells little", tried)
	}
}

// TestZ2All: what is handed in stays as it was, what comes out is the caller's.
func TestZ2All(t *testing.T) {
	l := append(example(), tied(whole(0, 0, "nobody")))
	l[0].Ties = append(l[0].Ties, whole(1, 0, "nobody"))
	l[0].Ties = l[0].Ties[:3]
	bases := []int{0, 16, -1}
	one, err := All(l[:2], bases[:2]) // what stands behind the lists would be refused
	if err != nil {
		t.Fatal(err)
	}
	two, _ := All(l[:2], bases[:2])
	was := slices.Clone(two)
	for i := range one[:cap(one)] {
		one[:cap(one)][i] = api.Patch{Part: 7, At: 7, Word: 7}
	}
	if !slices.Equal(two, was) {
		t.Error("two answers share memory")
	}
	for i, o := range example() {
		if !slices.Equal(l[i].Ties, o.Ties) || !slices.Equal(l[i].Symbols, o.Symbols) || !slices.Equal(l[i].Words, o.Words) {
			t.Errorf("All wrote into object %d: %v", i, l[i])
		}
	}
	if !slices.Equal(bases, []int{0, 16, -1}) {
		t.Error("All wrote into the bases")
	}
}

// TestZ2Put: also where two parts were handed in as one list.
func TestZ2Put(t *testing.T) {
	back := []int{1, 2, 3, 4, 5, 6}
	words := [][]int{back[:2], back[2:4], back[:2], {7}}
	l := []api.Patch{{Part: 0, At: 0, Word: 9}, {Part: 5}}
	got, err := Put(words[:3], l[:1])
	if err != nil || !equal(got, [][]int{{9, 2}, {3, 4}, {1, 2}}) {
		t.Fatalf("Put: %v, %v", got, err)
	}
	if _, err := Put(words[:3], []api.Patch{{Part: 0, At: 2}}); err != api.ErrBound {
		t.Errorf("Put of a word behind the part's: %v", err)
	}
	if _, err := Put(words[:3], []api.Patch{{Part: 3, At: 0}}); err != api.ErrBound {
		t.Errorf("Put of a part behind the last one: %v", err)
	}
	for i := range got {
		for k := range got[i][:cap(got[i])] {
			got[i][:cap(got[i])][k] = 70 + i
		}
	}
	if !equal(got, [][]int{{70, 70}, {71, 71}, {72, 72}}) {
		t.Errorf("lists of one answer share memory: %v", got)
	}
	if !slices.Equal(back, []int{1, 2, 3, 4, 5, 6}) || !slices.Equal(words[3], []int{7}) || l[0] != (api.Patch{Word: 9}) {
		t.Errorf("Put wrote into what it was given: %v", back)
	}
}
