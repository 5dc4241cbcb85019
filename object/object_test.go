package object

import (
	"slices"
	"testing"

	"marlinspike/api"
)

// plain: an object that may be, with something of each kind.
func plain() api.Object {
	return api.Object{
		Needs: []string{"libc", "libm"},
		Words: []int{11, -22, 0, 33},
		Symbols: []api.Symbol{
			{Name: "main", At: 0},
			{Name: "hook", At: 3, Weak: true},
		},
		Ties: []api.Tie{
			{At: 0, Kind: api.Base, Add: -5},
			{At: 1, Kind: api.Whole, Add: 0, Name: "print"},
			{At: 2, Kind: api.Near, Add: 7, Name: "print"},
			{At: 3, Kind: api.Whole, Add: 1, Name: "gone", Weak: true},
		},
	}
}

// full: an object that has as many of all as may be, each as long as may be.
func full() api.Object {
	o := api.Object{
		Needs: []string{"needed_a", "needed_b", "needed_c", "needed_d"},
		Words: slices.Repeat([]int{-api.MaxWord - 1}, api.MaxWords),
	}
	for i := range api.MaxSymbols {
		o.Symbols = append(o.Symbols, api.Symbol{Name: "symbol_" + string(rune('a'+i)), At: api.MaxWords - 1, Weak: true})
	}
	for i := range api.MaxTies {
		at := api.MaxWords - api.MaxTies + i
		o.Ties = append(o.Ties, api.Tie{At: at, Kind: api.Whole, Add: -api.MaxWord - 1, Name: "abcdefgh", Weak: true})
	}
	return o
}

// least: one word, and nothing else.
func least() api.Object { return api.Object{Words: []int{0}} }

// changed: plain, but for one thing.
func changed(by func(o *api.Object)) api.Object {
	o := plain()
	by(&o)
	return o
}

type wrong struct {
	what string
	o    api.Object
	want error
}

func TestB1MayBe(t *testing.T) {
	for what, o := range map[string]api.Object{
		"plain": plain(), "full": full(), "least": least(),
		"least and greatest word": {Words: []int{-api.MaxWord - 1, api.MaxWord}},
		"greatest Add":            {Words: []int{0}, Ties: []api.Tie{{Kind: api.Base, Add: api.MaxWord}}},
		"two symbols of one word": {Words: []int{0}, Symbols: []api.Symbol{{Name: "a"}, {Name: "b"}}},
		"names of each kind alike": {Needs: []string{"a"}, Words: []int{0, 0}, Symbols: []api.Symbol{{Name: "a"}},
			Ties: []api.Tie{{At: 0, Kind: api.Near, Name: "a"}, {At: 1, Kind: api.Near, Name: "a"}}},
	} {
		if err := Check(o); err != nil {
			t.Errorf("%s: %v", what, err)
		}
	}
}

func TestB1Many(t *testing.T) {
	checkAll(t, []wrong{
		{"five needs", changed(func(o *api.Object) { o.Needs = []string{"a", "b", "c", "d", "e"} }), api.ErrMany},
		{"nothing", api.Object{}, api.ErrMany},
		{"no words", changed(func(o *api.Object) { o.Words = nil }), api.ErrMany},
		{"41 words", changed(func(o *api.Object) { o.Words = make([]int, 41) }), api.ErrMany},
		{"nine symbols", changed(func(o *api.Object) { o.Symbols = make([]api.Symbol, 9) }), api.ErrMany},
		{"seven ties", changed(func(o *api.Object) { o.Ties = make([]api.Tie, 7) }), api.ErrMany},
		{"seven ties, a need that is no name", changed(func(o *api.Object) {
			o.Needs[0] = ""
			o.Ties = make([]api.Tie, 7)
		}), api.ErrMany},
	})
}

func TestB1NeedsAndWords(t *testing.T) {
	checkAll(t, []wrong{
		{"a need of no bytes", changed(func(o *api.Object) { o.Needs[1] = "" }), api.ErrBound},
		{"a need of nine bytes", changed(func(o *api.Object) { o.Needs[1] = "abcdefghi" }), api.ErrBound},
		{"a need that is no name", changed(func(o *api.Object) { o.Needs[1] = "Libm" }), api.ErrShape},
		{"a need twice", changed(func(o *api.Object) { o.Needs[1] = "libc" }), api.ErrShape},
		{"the last need as the first one", changed(func(o *api.Object) { o.Needs = []string{"a", "b", "c", "a"} }), api.ErrShape},
		{"twice, then of no bytes", changed(func(o *api.Object) { o.Needs = []string{"a", "a", ""} }), api.ErrShape},
		{"of no bytes, then twice", changed(func(o *api.Object) { o.Needs = []string{"", "a", "a"} }), api.ErrBound},
		{"a need twice, no word", changed(func(o *api.Object) { o.Needs[1], o.Words[0] = "libc", api.MaxWord+1 }), api.ErrShape},
		{"above all words", changed(func(o *api.Object) { o.Words[3] = api.MaxWord + 1 }), api.ErrBound},
		{"below all words", changed(func(o *api.Object) { o.Words[3] = -api.MaxWord - 2 }), api.ErrBound},
		{"no word, a symbol twice", changed(func(o *api.Object) {
			o.Words[3], o.Symbols[1].Name = api.MaxWord+1, "main"
		}), api.ErrBound},
	})
}

func TestB1Symbols(t *testing.T) {
	checkAll(t, []wrong{
		{"a symbol of no bytes", changed(func(o *api.Object) { o.Symbols[1].Name = "" }), api.ErrBound},
		{"a symbol that is no name", changed(func(o *api.Object) { o.Symbols[1].Name = "0a" }), api.ErrShape},
		{"no name, at no word", changed(func(o *api.Object) { o.Symbols[1] = api.Symbol{Name: "0a", At: 4} }), api.ErrShape},
		{"below the first word", changed(func(o *api.Object) { o.Symbols[1].At = -1 }), api.ErrBound},
		{"behind the last word", changed(func(o *api.Object) { o.Symbols[1].At = 4 }), api.ErrBound},
		{"a symbol twice", changed(func(o *api.Object) { o.Symbols[1].Name = "main" }), api.ErrShape},
		{"twice, at no word", changed(func(o *api.Object) { o.Symbols[1] = api.Symbol{Name: "main", At: 4} }), api.ErrBound},
		{"twice, then at no word", changed(func(o *api.Object) {
			o.Symbols = []api.Symbol{{Name: "a"}, {Name: "b"}, {Name: "a"}, {Name: "c", At: 9}}
		}), api.ErrShape},
		{"a symbol twice, a tie at no word", changed(func(o *api.Object) { o.Symbols[1].Name, o.Ties[0].At = "main", -1 }), api.ErrShape},
	})
}

func TestB1Ties(t *testing.T) {
	tie := func(x api.Tie) api.Object { return changed(func(o *api.Object) { o.Ties = []api.Tie{x} }) }
	checkAll(t, []wrong{
		{"below the first word", tie(api.Tie{At: -1, Kind: api.Base}), api.ErrBound},
		{"behind the last word", tie(api.Tie{At: 4, Kind: api.Base}), api.ErrBound},
		{"Add above all words", tie(api.Tie{Kind: api.Base, Add: api.MaxWord + 1}), api.ErrBound},
		{"Add below all words", tie(api.Tie{Kind: api.Near, Add: -api.MaxWord - 2, Name: "a"}), api.ErrBound},
		{"Add no word, no kind", tie(api.Tie{Kind: 4, Add: api.MaxWord + 1}), api.ErrBound},
		{"kind 0", tie(api.Tie{Kind: 0, Name: "a"}), api.ErrShape},
		{"kind 4", tie(api.Tie{Kind: 4, Name: "a"}), api.ErrShape},
		{"kind -1", tie(api.Tie{Kind: -1}), api.ErrShape},
		{"no kind, no name", tie(api.Tie{Kind: 4, Name: ""}), api.ErrShape},
		{"base with a name", tie(api.Tie{Kind: api.Base, Name: "a"}), api.ErrShape},
		{"base with what is no name", tie(api.Tie{Kind: api.Base, Name: "abcdefghi"}), api.ErrShape},
		{"weak base", tie(api.Tie{Kind: api.Base, Weak: true}), api.ErrShape},
		{"whole without a name", tie(api.Tie{Kind: api.Whole}), api.ErrBound},
		{"near without a name", tie(api.Tie{Kind: api.Near}), api.ErrBound},
		{"whole with what is no name", tie(api.Tie{Kind: api.Whole, Name: "_a"}), api.ErrShape},
		{"near with what is no name", tie(api.Tie{Kind: api.Near, Name: "a b", Weak: true}), api.ErrShape},
		{"at the one ahead", changed(func(o *api.Object) { o.Ties[2].At = 1 }), api.ErrShape},
		{"below the one ahead", changed(func(o *api.Object) { o.Ties[3].At = 1 }), api.ErrShape},
		{"at the one ahead, no name", changed(func(o *api.Object) { o.Ties[1].At, o.Ties[1].Name = 0, "" }), api.ErrShape},
		{"no name, then at no word", changed(func(o *api.Object) { o.Ties[1].Name, o.Ties[2].At = "A", 9 }), api.ErrShape},
	})
}

// checkAll: what Check says, and that Text says it too, with no text.
func checkAll(t *testing.T, l []wrong) {
	t.Helper()
	for _, c := range l {
		if err := Check(c.o); err != c.want {
			t.Errorf("%s: Check: %v, want %v", c.what, err, c.want)
		}
		if s, err := Text(c.o); err != c.want || s != "" {
			t.Errorf("%s: Text: %q, %v, want %v", c.what, s, err, c.want)
		}
	}
}
