package scope

import (
	"fmt"
	"slices"
	"strings"
	"testing"

	"marlinspike/api"
	"marlinspike/files"
	"marlinspike/object"
)

// over: files of these names and texts.
func over(t *testing.T, texts map[string]string) *files.Files {
	t.Helper()
	f := files.New()
	for s, text := range texts {
		if err := f.Write(s, text); err != nil {
			t.Fatalf("Write(%q): %v", s, err)
		}
	}
	return f
}

// needing: the text of an object that needs these.
func needing(needs ...string) string {
	var b strings.Builder
	for _, s := range needs {
		b.WriteString("need " + s + "\n")
	}
	return b.String() + "word " + fmt.Sprint(len(needs)) + "\n"
}

func equal(a, b api.Object) bool {
	return slices.Equal(a.Needs, b.Needs) && slices.Equal(a.Words, b.Words) &&
		slices.Equal(a.Symbols, b.Symbols) && slices.Equal(a.Ties, b.Ties)
}

// gives: just these names, and of each the object that its file has.
func gives(t *testing.T, f *files.Files, root, want string) {
	t.Helper()
	names, l, err := Of(f, root)
	if err != nil || !slices.Equal(names, strings.Fields(want)) || len(l) != len(names) {
		t.Errorf("Of(%q): %q, %d objects, %v, want %q", root, names, len(l), err, want)
		return
	}
	for i, s := range names {
		text, _, _ := f.Read(s)
		if o, err := object.Parse(text); err != nil || !equal(o, l[i]) {
			t.Errorf("Of(%q): the object of %q is %v, want %v", root, s, l[i], o)
		}
	}
}

// refuses: that error, and nothing beside it.
func refuses(t *testing.T, f *files.Files, root string, want error) {
	t.Helper()
	if names, l, err := Of(f, root); err != want || len(names) > 0 || len(l) > 0 {
		t.Errorf("Of(%q): %q, %d objects, %v, want %v", root, names, len(l), err, want)
	}
}

func TestE1Objects(t *testing.T) {
	f := over(t, map[string]string{
		"app":  "need libc\nword 0\nword 0\nsymbol main 0\nwhole 0 0 print\nweak near 1 0 gone\n",
		"libc": "word 11\nword 22\nsymbol print 1\nweak symbol hook 0\nbase 0 5\n",
	})
	names, l, err := Of(f, "app")
	if err != nil || !slices.Equal(names, []string{"app", "libc"}) || len(l) != 2 {
		t.Fatalf("Of: %q, %v, %v", names, l, err)
	}
	want := []api.Object{{
		Needs: []string{"libc"}, Words: []int{0, 0},
		Symbols: []api.Symbol{{Name: "main"}},
		Ties:    []api.Tie{{Kind: api.Whole, Name: "print"}, {At: 1, Kind: api.Near, Name: "gone", Weak: true}},
	}, {
		Words:   []int{11, 22},
		Symbols: []api.Symbol{{Name: "print", At: 1}, {Name: "hook", Weak: true}},
		Ties:    []api.Tie{{Kind: api.Base, Add: 5}},
	}}
	for i := range want {
		if !equal(l[i], want[i]) {
			t.Errorf("object %d: %v, want %v", i, l[i], want[i])
		}
	}
	gives(t, f, "libc", "libc")
}

func TestE1Order(t *testing.T) {
	f := over(t, map[string]string{
		"a": needing("c", "b"), "b": needing("e"), "c": needing("d", "b"),
		"d": needing("f"), "e": needing(), "f": needing("e"),
	})
	// All whom one needs are ahead of those whom these need.
	gives(t, f, "a", "a c b d e f")
	gives(t, f, "c", "c d b f e")
	gives(t, f, "e", "e")
}

func TestE1Round(t *testing.T) {
	f := over(t, map[string]string{
		"a": needing("b"), "b": needing("c"), "c": needing("a"),
		"me": needing("me"), "d": needing("me", "d", "a"),
	})
	gives(t, f, "a", "a b c")
	gives(t, f, "b", "b c a")
	gives(t, f, "me", "me")
	gives(t, f, "d", "d me a b c")
	all := over(t, map[string]string{
		"a": needing("a", "b", "c", "d"), "b": needing("d", "c", "b", "a"), "c": needing("e", "f", "a", "b"),
		"d": needing("f", "e", "d", "a"), "e": needing("a", "b", "c", "f"), "f": needing("f"),
	})
	gives(t, all, "a", "a b c d e f")
	gives(t, all, "d", "d f e a b c")
	gives(t, all, "f", "f")
}

func TestE1None(t *testing.T) {
	f := over(t, map[string]string{"a": needing("b", "gone"), "b": needing(), "c": needing("a"), "d": needing("gone", "d")})
	for _, root := range []string{"a", "c", "d", "gone", "", "A", "abcdefghi", "b ", "\x00"} {
		refuses(t, f, root, api.ErrNone)
	}
	refuses(t, files.New(), "a", api.ErrNone)
	gives(t, f, "b", "b")
}

func TestE1Text(t *testing.T) {
	for _, text := range []string{"", "x", "word 1", "word 01\n", "need a\n", "word 1\nneed a\n", strings.Repeat("\n", api.MaxText)} {
		f := over(t, map[string]string{"bad": text, "a": needing("b"), "b": needing("bad", "gone"), "c": needing()})
		refuses(t, f, "bad", api.ErrText)
		refuses(t, f, "a", api.ErrText)
		gives(t, f, "c", "c") // what isn't needed may be bad
	}
}

// TestE1First: of several errors the one of who is come to first is told.
func TestE1First(t *testing.T) {
	for _, c := range []struct {
		root, child []string // whom a needs; whom b needs
		want        error
	}{
		{[]string{"bad", "gone"}, nil, api.ErrText},
		{[]string{"gone", "bad"}, nil, api.ErrNone},
		{[]string{"b", "bad"}, []string{"gone"}, api.ErrText},
		{[]string{"b", "gone"}, []string{"bad"}, api.ErrNone},
		{[]string{"b", "c"}, []string{"gone", "bad"}, api.ErrNone},
		{[]string{"b", "c"}, []string{"bad", "gone"}, api.ErrText},
	} {
		f := over(t, map[string]string{"a": needing(c.root...), "b": needing(c.child...), "c": needing(), "bad": "word\n"})
		refuses(t, f, "a", c.want)
	}
}

// TestE1Now: it is told what the files have by now.
func TestE1Now(t *testing.T) {
	f := over(t, map[string]string{"a": needing("b"), "b": needing()})
	gives(t, f, "a", "a b")
	if err := f.Write("b", needing("a", "c")); err != nil {
		t.Fatal(err)
	}
	refuses(t, f, "a", api.ErrNone)
	if err := f.Write("c", needing()); err != nil {
		t.Fatal(err)
	}
	gives(t, f, "a", "a b c")
	if err := f.Remove("b"); err != nil {
		t.Fatal(err)
	}
	refuses(t, f, "a", api.ErrNone)
	gives(t, f, "c", "c")
}

// symbols of an object by a text: names, with a blank between; those behind '?' are weak.
func symbols(text string) api.Object {
	o := api.Object{Words: []int{0}}
	for _, s := range strings.Fields(text) {
		n, weak := strings.CutPrefix(s, "?")
		o.Symbols = append(o.Symbols, api.Symbol{Name: n, Weak: weak})
	}
	return o
}

func objects(texts ...string) []api.Object {
	var l []api.Object
	for _, s := range texts {
		l = append(l, symbols(s))
	}
	return l
}

func TestE2Find(t *testing.T) {
	for _, c := range []struct {
		l      []api.Object
		s      string
		in, at int
	}{
		{nil, "x", -1, -1},
		{objects("", ""), "x", -1, -1},
		{objects("y", "?z"), "x", -1, -1},
		{objects("xx", "?X"), "x", -1, -1},
		{objects("y"), "", -1, -1},
		{objects("x"), "x", 0, 0},
		{objects("y", "", "z y x"), "x", 2, 2},
		{objects("y x", "x"), "x", 0, 1},
		{objects("?x"), "x", 0, 0},
		{objects("y", "z ?x", "?x"), "x", 1, 1},
		{objects("?x", "y x"), "x", 1, 1},
		{objects("?x", "?x", "y", "z x", "x"), "x", 3, 1},
		{objects("y x", "?x"), "x", 0, 1},
		{objects("?y x", "y ?x"), "y", 1, 0},
		{objects("?x x"), "x", 0, 1}, // of one object that may not be
		{objects("?x ?x", "?x"), "x", 0, 0},
		{objects("x x"), "x", 0, 0},
		{[]api.Object{{Symbols: []api.Symbol{{Name: "A b", Weak: true}, {At: -5}}}}, "", 0, 1},
		{[]api.Object{{Symbols: []api.Symbol{{Name: "A b", Weak: true}, {At: -5}}}}, "A b", 0, 0},
	} {
		if in, at := Find(c.l, c.s); in != c.in || at != c.at {
			t.Errorf("Find(%v, %q): %d, %d, want %d, %d", c.l, c.s, in, at, c.in, c.at)
		}
	}
}

// dice: numbers that look drawn, the same each time.
func dice(seed uint32) func(most int) int {
	return func(most int) int {
		seed = seed*1664525 + 1013904223
		return int(seed>>8) % most
	}
}

// drawn: needs and symbols of an object.
func drawn(draw func(int) int, names []string) api.Object {
	o := api.Object{Words: []int{draw(100)}}
	for range draw(api.MaxNeeds + 1) {
		if s := names[draw(len(names))]; !slices.Contains(o.Needs, s) {
			o.Needs = append(o.Needs, s)
		}
	}
	for _, s := range []string{"x", "y", "z"} {
		if draw(2) == 0 {
			o.Symbols = append(o.Symbols, api.Symbol{Name: s, Weak: draw(2) == 0})
		}
	}
	return o
}

// TestW4Objects: the root, and all whom one of them needs, each once.
func TestW4Objects(t *testing.T) {
	draw, names := dice(5), []string{"a", "b", "c", "d", "e", "f"}
	for range 500 {
		f, needs := files.New(), map[string][]string{}
		for _, s := range names {
			o := drawn(draw, names)
			text, err := object.Text(o)
			if err != nil || f.Write(s, text) != nil {
				t.Fatalf("%v: %v", o, err)
			}
			needs[s] = o.Needs
		}
		for _, root := range names {
			got, l, err := Of(f, root)
			if err != nil || len(l) != len(got) || got[0] != root {
				t.Fatalf("Of(%q): %q, %d objects, %v", root, got, len(l), err)
			}
			slices.Sort(got)
			if want := reached(needs, root); !slices.Equal(got, want) {
				t.Errorf("Of(%q) over %v: %q, want %q", root, needs, got, want)
			}
		}
	}
}

// reached: who is come to by going on from everyone until nobody is new.
func reached(needs map[string][]string, root string) []string {
	l := []string{root}
	for {
		more := slices.Clone(l)
		for _, s := range l {
			more = append(more, needs[s]...)
		}
		slices.Sort(more)
		more = slices.Compact(more)
		if len(more) == len(l) {
			return more
		}
		l = more
	}
}

// TestW4Symbols: of the first one who has it and isn't weak; who has it weakly behind one who has it changes nothing.
func TestW4Symbols(t *testing.T) {
	draw := dice(6)
	for range 2000 {
		var l []api.Object
		for range draw(6) {
			l = append(l, drawn(draw, []string{"a"}))
		}
		for _, s := range []string{"x", "y", "z", "nobody"} {
			in, at := Find(l, s)
			if want := firstOf(l, s); in != want {
				t.Errorf("Find(%v, %q): object %d, want %d", l, s, in, want)
			}
			if in < 0 {
				continue
			}
			if l[in].Symbols[at].Name != s {
				t.Errorf("Find(%v, %q): %d, %d is another symbol", l, s, in, at)
			}
			for behind := firstAtAll(l, s) + 1; behind <= len(l); behind++ {
				with, want := slices.Insert(slices.Clone(l), behind, symbols("w ?"+s)), in
				if behind <= in {
					want++ // the same one, moved by who was put ahead of it
				}
				if i, k := Find(with, s); i != want || k != at {
					t.Errorf("Find(%v, %q): %d, %d, want %d, %d", with, s, i, k, want, at)
				}
			}
		}
	}
}

// firstAtAll: the first object that has it, weakly or not.
func firstAtAll(l []api.Object, s string) int {
	return slices.IndexFunc(l, func(o api.Object) bool {
		return slices.ContainsFunc(o.Symbols, func(x api.Symbol) bool { return x.Name == s })
	})
}

// firstOf: the first object that has it and isn't weak, else the first one that has it.
func firstOf(l []api.Object, s string) int {
	strong := slices.IndexFunc(l, func(o api.Object) bool {
		return slices.ContainsFunc(o.Symbols, func(x api.Symbol) bool { return x.Name == s && !x.Weak })
	})
	if strong >= 0 {
		return strong
	}
	return firstAtAll(l, s)
}

// TestZ2: what comes out is the caller's, what is handed in stays as it was.
func TestZ2(t *testing.T) {
	text := "need b\nword 1\nsymbol x 0\nbase 0 0\n"
	f := over(t, map[string]string{"a": text, "b": text})
	names, l, err := Of(f, "a")
	if err != nil {
		t.Fatal(err)
	}
	was, _ := object.Parse(text)
	for i := range names[:cap(names)] {
		names[:cap(names)][i] = "other"
	}
	l[0].Needs[0], l[0].Words[0], l[0].Symbols[0].Name, l[0].Ties[0].Add = "other", 9, "other", 9
	if !equal(l[1], was) {
		t.Error("two objects of one answer share memory")
	}
	gives(t, f, "a", "a b")
	back := objects("?x", "?x", "x")
	if in, at := Find(back[:2], "x"); in != 0 || at != 0 {
		t.Errorf("Find: %d, %d: what stands behind the list was read", in, at)
	}
	for i, o := range objects("?x", "?x", "x") {
		if !equal(back[i], o) {
			t.Error("Find wrote into what it was given")
		}
	}
	if !slices.Equal(f.List(), []string{"a", "b"}) {
		t.Error("Of changed the files")
	}
}
