package image

import (
	"fmt"
	"math"
	"slices"
	"strings"
	"testing"

	"marlinspike/api"
	"marlinspike/files"
	"marlinspike/object"
	"marlinspike/patch"
	"marlinspike/place"
	"marlinspike/scope"
)

const (
	appText  = "need libc\nword 0\nword 0\nword 0\nsymbol main 0\nwhole 0 0 print\nweak whole 1 0 missing\nnear 2 0 print\n"
	libcText = "word 11\nword 22\nsymbol print 1\nweak symbol hook 0\nbase 0 5\n"
)

// over: files of these names and texts.
func over(t *testing.T, texts map[string]string) *files.Files {
	t.Helper()
	f := files.New()
	for s, text := range texts {
		if err := f.Write(s, text); err != nil {
			t.Fatalf("Write(%q): %v", s, err)
		}
	}
	return f
}

// text of an object of so many words, and these lines behind them.
func text(needs string, words int, lines ...string) string {
	var b strings.Builder
	for _, s := range strings.Fields(needs) {
		b.WriteString("need " + s + "\n")
	}
	b.WriteString(strings.Repeat("word 0\n", words))
	for _, s := range lines {
		b.WriteString(s + "\n")
	}
	return b.String()
}

func equal(a, b []api.Part) bool {
	return slices.EqualFunc(a, b, func(x, y api.Part) bool {
		return x.Name == y.Name && x.Base == y.Base && slices.Equal(x.Words, y.Words)
	})
}

// refuses: Reckon and Load say that error, and nothing beside it.
func refuses(t *testing.T, f *files.Files, root string, want error) {
	t.Helper()
	names, l, bases, patches, err := Reckon(f, root)
	if err != want || len(names)+len(l)+len(bases)+len(patches) > 0 {
		t.Errorf("Reckon(%q): %q, %v, %v, %v, %v, want %v", root, names, l, bases, patches, err, want)
	}
	if parts, err := Load(f, root); err != want || len(parts) > 0 {
		t.Errorf("Load(%q): %v, %v, want %v", root, parts, err, want)
	}
}

// loads: just these parts.
func loads(t *testing.T, f *files.Files, root string, want ...api.Part) {
	t.Helper()
	if got, err := Load(f, root); err != nil || !equal(got, want) {
		t.Errorf("Load(%q): %v, %v, want %v", root, got, err, want)
	}
}

func TestH1Example(t *testing.T) {
	f := over(t, map[string]string{"app": appText, "libc": libcText})
	names, l, bases, patches, err := Reckon(f, "app")
	if err != nil || !slices.Equal(names, []string{"app", "libc"}) || !slices.Equal(bases, []int{0, 16}) {
		t.Errorf("Reckon: %q, %v, %v", names, bases, err)
	}
	if want := []api.Patch{{At: 0, Word: 17}, {At: 1}, {At: 2, Word: 15}, {Part: 1, Word: 21}}; !slices.Equal(patches, want) {
		t.Errorf("Reckon: patches %v, want %v", patches, want)
	}
	if len(l) != 2 {
		t.Fatalf("Reckon: %d objects", len(l))
	}
	for i, want := range []string{appText, libcText} { // their words aren't patched yet
		if got, err := object.Text(l[i]); err != nil || got != want {
			t.Errorf("Reckon: object %d is %q, %v", i, got, err)
		}
	}
}

func TestH1OfsError(t *testing.T) {
	f := over(t, map[string]string{
		"app": text("libc", 1), "bad": "word\n", "top": text("mid", 1), "mid": text("bad gone", 1),
		"loose": text("gone", 40, "whole 0 0 nobody"),
	})
	refuses(t, f, "gone", api.ErrNone)
	refuses(t, f, "", api.ErrNone)
	refuses(t, f, "App", api.ErrNone)
	refuses(t, f, "app", api.ErrNone)
	refuses(t, f, "bad", api.ErrText)
	refuses(t, f, "top", api.ErrText)
	refuses(t, f, "loose", api.ErrNone) // told ahead of All's
	refuses(t, files.New(), "app", api.ErrNone)
}

// sixOf: a root that needs five others, of these sizes and with these lines.
func sixOf(t *testing.T, root, others int, lines ...string) *files.Files {
	t.Helper()
	return over(t, map[string]string{
		"a": text("b c d e", root, lines...), "b": text("f", others), "c": text("", others),
		"d": text("", others), "e": text("", others), "f": text("", others),
	})
}

func TestH1BasesError(t *testing.T) {
	refuses(t, sixOf(t, 40, 40), "a", api.ErrFull)
	refuses(t, sixOf(t, 17, 40), "a", api.ErrFull)
	refuses(t, sixOf(t, 17, 40, "whole 0 0 nobody"), "a", api.ErrFull) // told ahead of All's
	refuses(t, sixOf(t, 16, 40, "whole 0 0 nobody"), "a", api.ErrLoose)
	f := sixOf(t, 16, 40)
	names, _, bases, _, err := Reckon(f, "a")
	if err != nil || !slices.Equal(bases, []int{0, 16, 64, 112, 160, 208}) || strings.Join(names, "") != "abcdef" {
		t.Errorf("Reckon: %q at %v, %v", names, bases, err)
	}
	if _, err := Load(f, "b"); err != nil { // those who aren't needed take no room
		t.Errorf("Load: %v", err)
	}
}

func TestH1AllsError(t *testing.T) {
	f := over(t, map[string]string{
		"loose": text("libc", 2, "whole 0 0 print", "near 1 0 nobody"),
		"far":   text("libc", 2, "near 0 483 print"),
		"near":  text("libc", 1, "near 0 482 print"),
		"over":  text("libc", 2, "base 0 2147483647", "whole 1 2147483647 print"),
		"both":  text("libc", 2, "near 0 500 print", "whole 1 0 nobody"),
		"libc":  text("", 3, "symbol print 2"),
	})
	refuses(t, f, "loose", api.ErrLoose)
	refuses(t, f, "far", api.ErrFar)
	refuses(t, f, "over", api.ErrFar)
	refuses(t, f, "both", api.ErrFar)
	loads(t, f, "near", api.Part{Name: "near", Words: []int{500}}, api.Part{Name: "libc", Base: 16, Words: []int{0, 0, 0}})
}

func TestH2Load(t *testing.T) {
	f := over(t, map[string]string{"app": appText, "libc": libcText})
	libc := func(base, word int) api.Part { return api.Part{Name: "libc", Base: base, Words: []int{word, 22}} }
	loads(t, f, "app", api.Part{Name: "app", Words: []int{17, 0, 15}}, libc(16, 21))
	loads(t, f, "libc", libc(0, 5))
	if err := f.Write("libc", "word 1\nsymbol print 0\n"); err != nil {
		t.Fatal(err)
	}
	loads(t, f, "app", api.Part{Name: "app", Words: []int{16, 0, 14}}, api.Part{Name: "libc", Base: 16, Words: []int{1}})
	if err := f.Remove("libc"); err != nil {
		t.Fatal(err)
	}
	refuses(t, f, "app", api.ErrNone)
}

// lays: just these parts.
func lays(t *testing.T, names []string, bases []int, l []api.Object, p []api.Patch, want ...api.Part) {
	t.Helper()
	if got, err := Lay(names, bases, l, p); err != nil || !equal(got, want) {
		t.Errorf("Lay(%q, %v, %v, %v): %v, %v, want %v", names, bases, l, p, got, err, want)
	}
}

// laysNot: that error, and nothing beside it.
func laysNot(t *testing.T, names []string, bases []int, l []api.Object, p []api.Patch, want error) {
	t.Helper()
	if got, err := Lay(names, bases, l, p); err != want || len(got) > 0 {
		t.Errorf("Lay(%q, %v, %v, %v): %v, %v, want %v", names, bases, l, p, got, err, want)
	}
}

func TestH2Lay(t *testing.T) {
	l := []api.Object{{Words: []int{1, 2}, Ties: []api.Tie{{Kind: api.Base}}}, {Words: []int{3}}}
	lays(t, nil, nil, nil, nil)
	lays(t, []string{"a", "b"}, []int{32, 0}, l, nil, api.Part{Name: "a", Base: 32, Words: []int{1, 2}}, api.Part{Name: "b", Words: []int{3}})
	lays(t, []string{"a", "b"}, []int{0, 16}, l, []api.Patch{{At: 1, Word: 7}, {Part: 1, Word: 8}, {At: 1, Word: 9}},
		api.Part{Name: "a", Words: []int{1, 9}}, api.Part{Name: "b", Base: 16, Words: []int{8}})
	// Names and bases are taken as they are, and so are objects that may not be.
	lays(t, []string{"", "A b"}, []int{math.MinInt, 999}, []api.Object{{}, {Words: []int{math.MaxInt}}}, nil,
		api.Part{Base: math.MinInt}, api.Part{Name: "A b", Base: 999, Words: []int{math.MaxInt}})
}

func TestH2LayWrong(t *testing.T) {
	l := []api.Object{{Words: []int{1, 2}}, {Words: []int{3}}}
	two, at := []string{"a", "b"}, []int{0, 16}
	none := []api.Patch{{Part: 2}}
	for _, p := range [][]api.Patch{nil, none} { // ErrShape is named first
		laysNot(t, two[:1], at, l, p, api.ErrShape)
		laysNot(t, nil, at, l, p, api.ErrShape)
		laysNot(t, two, at[:1], l, p, api.ErrShape)
		laysNot(t, two, nil, l, p, api.ErrShape)
		laysNot(t, two, at, l[:1], p, api.ErrShape)
		laysNot(t, two, at, nil, p, api.ErrShape)
		laysNot(t, nil, nil, l, p, api.ErrShape)
		laysNot(t, append(two, "c"), at, l, p, api.ErrShape)
		laysNot(t, two, append(at, 32), l, p, api.ErrShape)
		laysNot(t, append(two, "c"), append(at, 32), l, p, api.ErrShape)
	}
	laysNot(t, two, at, l, none, api.ErrBound)
	laysNot(t, two, at, l, []api.Patch{{At: 1}, {Part: 1, At: 1}}, api.ErrBound)
	laysNot(t, two, at, l, []api.Patch{{Part: -1}}, api.ErrBound)
	laysNot(t, two, at, l, []api.Patch{{At: -1}}, api.ErrBound)
	laysNot(t, nil, nil, nil, []api.Patch{{}}, api.ErrBound)
}

// tells: that word lies there.
func tells(t *testing.T, l []api.Part, at, want int) {
	t.Helper()
	if got, ok := At(l, at); got != want || !ok {
		t.Errorf("At(%v, %d): %d, %v, want %d", l, at, got, ok, want)
	}
}

// tellsNot: none lies there, and no word is told.
func tellsNot(t *testing.T, l []api.Part, places ...int) {
	t.Helper()
	for _, at := range places {
		if got, ok := At(l, at); got != 0 || ok {
			t.Errorf("At(%v, %d): %d, %v", l, at, got, ok)
		}
	}
}

func TestH2At(t *testing.T) {
	l := []api.Part{{Name: "a", Base: 16, Words: []int{1, 0, 3}}, {Name: "b", Base: 0, Words: []int{4}}, {Name: "c", Base: 32}}
	tells(t, l, 16, 1)
	tells(t, l, 17, 0)
	tells(t, l, 18, 3)
	tells(t, l, 0, 4)
	tellsNot(t, l, math.MinInt, -16, -1, 1, 15, 19, 31, 32, 33, 256, math.MaxInt) // also on a page that a part has begun
	tellsNot(t, nil, -1, 0, 1, math.MaxInt)
	both := []api.Part{{Base: 2, Words: []int{12, 13}}, {Base: 0, Words: []int{20, 21, 22, 23, 24}}, {Base: 4, Words: []int{34, 35}}}
	for at, want := range []int{20, 21, 12, 13, 24, 35} { // of the first part that has it
		tells(t, both, at, want)
	}
}

// TestH2AtFar: places so far from each other that no number tells it.
func TestH2AtFar(t *testing.T) {
	low, high := api.Part{Base: math.MinInt, Words: []int{1, 2}}, api.Part{Base: math.MaxInt, Words: []int{3, 4}}
	l := []api.Part{low, high, {Base: -1, Words: []int{5, 6}}}
	tells(t, l, math.MinInt, 1)
	tells(t, l, math.MinInt+1, 2)
	tells(t, l, math.MaxInt, 3)
	tells(t, l, -1, 5)
	tells(t, l, 0, 6)
	tellsNot(t, l, math.MinInt+2, -2, 1, math.MaxInt-1)
	tellsNot(t, []api.Part{high}, math.MinInt, math.MinInt+1, 0)
	tellsNot(t, []api.Part{low}, math.MaxInt, math.MaxInt-1, 0)
}

// dice: numbers that look drawn, the same each time.
func dice(seed uint32) func(most int) int {
	return func(most int) int {
		seed = seed*1664525 + 1013904223
		return int(seed>>8) % most
	}
}

// drawn: an object that may be.
func drawn(draw func(int) int) api.Object {
	var o api.Object
	for _, s := range []string{"b", "c", "d", "e", "f"} {
		if draw(3) == 0 && len(o.Needs) < api.MaxNeeds {
			o.Needs = append(o.Needs, s)
		}
	}
	for range 1 + draw(api.MaxWords) {
		o.Words = append(o.Words, draw(2000)-1000)
	}
	for _, s := range []string{"x", "y", "z"} {
		if draw(2) == 0 {
			o.Symbols = append(o.Symbols, api.Symbol{Name: s, At: draw(len(o.Words)), Weak: draw(2) == 0})
		}
	}
	for at := 0; at < len(o.Words) && len(o.Ties) < api.MaxTies; at += 1 + draw(9) {
		tie := api.Tie{At: at, Kind: 1 + draw(3), Add: draw(40) - 20}
		if tie.Kind != api.Base {
			tie.Name = []string{"x", "y", "z", "nobody"}[draw(4)]
			tie.Weak = draw(4) == 0 || tie.Name == "nobody"
		}
		o.Ties = append(o.Ties, tie)
	}
	return o
}

// drawnFiles: six of them.
func drawnFiles(t *testing.T, draw func(int) int) *files.Files {
	t.Helper()
	texts := map[string]string{}
	for _, s := range strings.Fields("a b c d e f") {
		o, err := object.Text(drawn(draw))
		if err != nil {
			t.Fatal(err)
		}
		texts[s] = o
	}
	return over(t, texts)
}

// images: roots of drawn files that may be loaded, each with its objects.
func images(t *testing.T, seed uint32, look func(l []api.Object, parts []api.Part)) {
	t.Helper()
	draw, looked := dice(seed), 0
	for range 400 {
		f := drawnFiles(t, draw)
		for _, root := range f.List() {
			parts, err := Load(f, root)
			if err != nil {
				continue
			}
			names, l, err := scope.Of(f, root)
			if err != nil || len(names) != len(parts) {
				t.Fatalf("Of(%q): %q, %v; parts %v", root, names, err, parts)
			}
			for i, s := range names {
				if parts[i].Name != s {
					t.Errorf("Load(%q): %v, want %q", root, parts, names)
				}
			}
			look(l, parts)
			looked++
		}
	}
	if looked < 100 {
		t.Errorf("%d images: a draw that tells little", looked)
	}
}

// TestW1: each word that is tied to a symbol tells where that lies, and there stands the word of the one who has it; all other words are as they were.
func TestW1(t *testing.T) {
	images(t, 8, func(l []api.Object, parts []api.Part) {
		for i, o := range l {
			bound := map[int]bool{}
			for _, tie := range o.Ties {
				bound[tie.At] = true
				leads(t, l, parts, i, tie)
			}
			for at, w := range o.Words {
				if !bound[at] && parts[i].Words[at] != w {
					t.Errorf("%v: word %d of part %d isn't as it was in %v", parts, at, i, o)
				}
			}
			if len(parts[i].Words) != len(o.Words) {
				t.Errorf("%v: part %d has other words than %v", parts, i, o)
			}
		}
	})
}

// leads: the word of that tie of part i tells where that lies which it is tied to.
func leads(t *testing.T, l []api.Object, parts []api.Part, i int, tie api.Tie) {
	t.Helper()
	to := parts[i].Words[tie.At] - tie.Add
	if tie.Kind == api.Near {
		to += parts[i].Base + tie.At
	}
	if tie.Kind == api.Base {
		if to != parts[i].Base {
			t.Errorf("%v: tie %v of part %d tells %d", parts, tie, i, to)
		}
		return
	}
	in, k := scope.Find(l, tie.Name)
	if in < 0 {
		if to != 0 || !tie.Weak {
			t.Errorf("%v: nobody has what tie %v of part %d is tied to, and it tells %d", parts, tie, i, to)
		}
		return
	}
	at := l[in].Symbols[k].At
	if to != parts[in].Base+at {
		t.Errorf("%v: tie %v of part %d tells %d, not where part %d has it", parts, tie, i, to, in)
	}
	tells(t, parts, to, parts[in].Words[at])
}

// TestW3Image: on pages, apart, each at the least place; where something lies just one part has it.
func TestW3Image(t *testing.T) {
	images(t, 9, func(_ []api.Object, parts []api.Part) {
		for at := -20; at < api.Window+20; at++ {
			have, word := 0, 0
			for _, p := range parts {
				if at >= p.Base && at < p.Base+len(p.Words) {
					have, word = have+1, p.Words[at-p.Base]
				}
			}
			switch {
			case have == 0:
				tellsNot(t, parts, at)
			case have > 1 || at < 0 || at >= api.Window:
				t.Errorf("%v: %d have %d", parts, have, at)
			default:
				tells(t, parts, at, word)
			}
		}
		least := 0 // nothing is taken, so each lies right behind the pages of the one ahead
		for _, p := range parts {
			if p.Base != least {
				t.Errorf("%v: %q isn't at %d", parts, p.Name, least)
			}
			least += (len(p.Words) + 15) / 16 * 16
		}
	})
}

// TestW3Farther: where all lie farther by as much, all that hangs on that is farther by as much.
func TestW3Farther(t *testing.T) {
	f := over(t, map[string]string{"app": appText, "libc": libcText})
	names, l, bases, _, err := Reckon(f, "app")
	if err != nil {
		t.Fatal(err)
	}
	for by := 0; by+16 <= api.Window; by += api.Page {
		at, err := place.Bases([]int{3, 2}, []api.Range{{From: 0, Many: by}})
		if by+32 > api.Window {
			if err != api.ErrFull {
				t.Errorf("Bases behind %d: %v, %v", by, at, err)
			}
			continue
		}
		if err != nil || at[0] != bases[0]+by || at[1] != bases[1]+by {
			t.Fatalf("Bases behind %d: %v, %v", by, at, err)
		}
		p, err := patch.All(l, at)
		if err != nil {
			t.Fatal(err)
		}
		lays(t, names, at, l, p, api.Part{Name: "app", Base: by, Words: []int{17 + by, 0, 15}},
			api.Part{Name: "libc", Base: 16 + by, Words: []int{21 + by, 22}})
	}
}

// TestZ2: what is handed in stays as it was, what comes out is the caller's.
func TestZ2(t *testing.T) {
	back := []int{1, 2, 3, 4}
	l := []api.Object{{Words: back[:2]}, {Words: back[:2]}, {Words: []int{9}}}
	names, bases, p := []string{"a", "b", "c"}, []int{0, 16, 32}, []api.Patch{{Word: 7}, {Part: 9}}
	got, err := Lay(names[:2], bases[:2], l[:2], p[:1]) // what stands behind the patches would be refused
	if err != nil || !equal(got, []api.Part{{Name: "a", Words: []int{7, 2}}, {Name: "b", Base: 16, Words: []int{1, 2}}}) {
		t.Fatalf("Lay: %v, %v", got, err)
	}
	for i := range got {
		for k := range got[i].Words[:cap(got[i].Words)] {
			got[i].Words[:cap(got[i].Words)][k] = 70 + i
		}
	}
	if !slices.Equal(got[0].Words, []int{70, 70}) || !slices.Equal(got[1].Words, []int{71, 71}) {
		t.Errorf("lists of one answer share memory: %v", got)
	}
	if !slices.Equal(back, []int{1, 2, 3, 4}) || fmt.Sprint(names, bases, p) != "[a b c] [0 16 32] [{0 0 7} {9 0 0}]" {
		t.Errorf("Lay wrote into what it was given: %v, %v, %v, %v", back, names, bases, p)
	}
	tellsNot(t, []api.Part{{Words: back[:2]}}, 2) // what stands behind a part's words is none of its words
}

// TestZ2Reckon: what was told once is nothing to those who ask again.
func TestZ2Reckon(t *testing.T) {
	f := over(t, map[string]string{"app": appText, "libc": libcText})
	names, l, bases, patches, err := Reckon(f, "app")
	if err != nil {
		t.Fatal(err)
	}
	names[0], bases[0], patches[0].Word = "other", 77, 77
	l[0].Words[0], l[0].Ties[0].Add, l[1].Symbols[0].At = 77, 77, 0
	parts, err := Load(f, "app")
	if err != nil {
		t.Fatal(err)
	}
	parts[0].Words[1] = 77
	loads(t, f, "app", api.Part{Name: "app", Words: []int{17, 0, 15}}, api.Part{Name: "libc", Base: 16, Words: []int{21, 22}})
	if text, stamp, err := f.Read("app"); text != appText || stamp == 0 || err != nil || len(f.List()) != 2 {
		t.Errorf("the files aren't as they were: %q, %d, %v", text, stamp, err)
	}
}
