package entry

import (
	"fmt"
	"math"
	"slices"
	"strings"
	"testing"

	"marlinspike/api"
	"marlinspike/files"
	"marlinspike/image"
	"marlinspike/object"
)

const (
	appText  = "need libc\nword 0\nword 0\nword 0\nsymbol main 0\nwhole 0 0 print\nweak whole 1 0 missing\nnear 2 0 print\n"
	libcText = "word 11\nword 22\nsymbol print 1\nweak symbol hook 0\nbase 0 5\n"
)

// writes a file that may be.
func writes(t *testing.T, f *files.Files, s, text string) {
	t.Helper()
	if err := f.Write(s, text); err != nil {
		t.Fatalf("Write(%q, %q): %v", s, text, err)
	}
}

// removes a file that is there.
func removes(t *testing.T, f *files.Files, s string) {
	t.Helper()
	if err := f.Remove(s); err != nil {
		t.Fatalf("Remove(%q): %v", s, err)
	}
}

// two files: libc, of stamp 1, and app, of stamp 2.
func two(t *testing.T) *files.Files {
	t.Helper()
	f := files.New()
	writes(t, f, "libc", libcText)
	writes(t, f, "app", appText)
	return f
}

// appEntry: what is kept of app, of these two files.
func appEntry() api.Entry {
	return api.Entry{
		Root:    "app",
		Parts:   []api.Stamped{{Name: "app", Stamp: 2, Base: 0}, {Name: "libc", Stamp: 1, Base: 16}},
		Patches: []api.Patch{{At: 0, Word: 17}, {At: 1, Word: 0}, {At: 2, Word: 15}, {Part: 1, At: 0, Word: 21}},
	}
}

// appParts: what app is, loaded of these two files.
func appParts() []api.Part {
	return []api.Part{{Name: "app", Words: []int{17, 0, 15}}, {Name: "libc", Base: 16, Words: []int{21, 22}}}
}

func equal(a, b api.Entry) bool {
	return a.Root == b.Root && slices.Equal(a.Parts, b.Parts) && slices.Equal(a.Patches, b.Patches)
}

func equalParts(a, b []api.Part) bool {
	return slices.EqualFunc(a, b, func(p, q api.Part) bool {
		return p.Name == q.Name && p.Base == q.Base && slices.Equal(p.Words, q.Words)
	})
}

// makes: just that entry.
func makes(t *testing.T, f *files.Files, root string, want api.Entry) {
	t.Helper()
	if got, err := Make(f, root); err != nil || !equal(got, want) {
		t.Errorf("Make(%q): %v, %v, want %v", root, got, err, want)
	}
}

// makesNot: that error, and nothing beside it.
func makesNot(t *testing.T, f *files.Files, root string, want error) {
	t.Helper()
	if got, err := Make(f, root); err != want || !equal(got, api.Entry{}) {
		t.Errorf("Make(%q): %v, %v, want %v", root, got, err, want)
	}
}

// uses: it is fresh, and is just these parts.
func uses(t *testing.T, e api.Entry, f *files.Files, want ...api.Part) {
	t.Helper()
	if !Fresh(e, f) {
		t.Errorf("Fresh(%v): false", e)
	}
	if got, err := Use(e, f); err != nil || !equalParts(got, want) {
		t.Errorf("Use(%v): %v, %v, want %v", e, got, err, want)
	}
}

// usesNot: that error, and nothing beside it; ErrState just if it isn't fresh.
func usesNot(t *testing.T, e api.Entry, f *files.Files, want error) {
	t.Helper()
	if got := Fresh(e, f); got != (want != api.ErrState) {
		t.Errorf("Fresh(%v): %v", e, got)
	}
	if got, err := Use(e, f); err != want || len(got) > 0 {
		t.Errorf("Use(%v): %v, %v, want %v", e, got, err, want)
	}
}

func TestI1Make(t *testing.T) {
	f := two(t)
	makes(t, f, "app", appEntry())
	makes(t, f, "libc", api.Entry{Root: "libc", Parts: []api.Stamped{{Name: "libc", Stamp: 1}}, Patches: []api.Patch{{Word: 5}}})
	writes(t, f, "libc", "word 1\nsymbol print 0\n")
	makes(t, f, "app", api.Entry{
		Root:    "app",
		Parts:   []api.Stamped{{Name: "app", Stamp: 2}, {Name: "libc", Stamp: 3, Base: 16}},
		Patches: []api.Patch{{Word: 16}, {At: 1}, {At: 2, Word: 14}},
	})
	makes(t, f, "libc", api.Entry{Root: "libc", Parts: []api.Stamped{{Name: "libc", Stamp: 3}}})
}

// many: a root that needs five others, each of 40 words, but for the root's.
func many(t *testing.T, root int) *files.Files {
	t.Helper()
	f := files.New()
	for i, s := range strings.Fields("f e d c b a") {
		needs, words := map[string]string{"a": "need b\nneed c\nneed d\nneed e\n", "b": "need f\n"}[s], 40
		if i == 5 {
			words = root
		}
		writes(t, f, s, needs+strings.Repeat("word -7\n", words)+"base 0 0\nbase 1 1\nbase 2 2\nbase 3 3\nbase 4 4\nbase 15 -5\n")
	}
	return f
}

// TestI1Most: as many parts and patches as there may be.
func TestI1Most(t *testing.T) {
	f := many(t, 16)
	e, err := Make(f, "a")
	if err != nil || len(e.Parts) != api.MaxFiles || len(e.Patches) != api.MaxFiles*api.MaxTies {
		t.Fatalf("Make: %v, %v", e, err)
	}
	for i, want := range []api.Stamped{{Name: "a", Stamp: 6}, {Name: "b", Stamp: 5, Base: 16}, {Name: "c", Stamp: 4, Base: 64},
		{Name: "d", Stamp: 3, Base: 112}, {Name: "e", Stamp: 2, Base: 160}, {Name: "f", Stamp: 1, Base: 208}} {
		last := api.Patch{Part: i, At: 15, Word: want.Base - 5}
		if e.Parts[i] != want || e.Patches[i*6+5] != last {
			t.Errorf("Make: part %d is %v, want %v; its last patch %v, want %v", i, e.Parts[i], want, e.Patches[i*6+5], last)
		}
	}
	if err := Check(e); err != nil {
		t.Errorf("Check(%v): %v", e, err)
	}
	parts, err := image.Load(f, "a")
	if err != nil {
		t.Fatal(err)
	}
	uses(t, e, f, parts...)
	writtenIsRead(t, e)
}

func TestI1ReckonsError(t *testing.T) {
	f := two(t)
	makesNot(t, f, "gone", api.ErrNone)
	makesNot(t, f, "", api.ErrNone)
	makesNot(t, f, "App", api.ErrNone)
	makesNot(t, files.New(), "app", api.ErrNone)
	writes(t, f, "bad", "word\n")
	writes(t, f, "top", "need bad\nword 1\n")
	writes(t, f, "loose", "need libc\nword 1\nwhole 0 0 nobody\n")
	writes(t, f, "far", "need libc\nword 1\nnear 0 484 print\n")
	makesNot(t, f, "bad", api.ErrText)
	makesNot(t, f, "top", api.ErrText)
	makesNot(t, f, "loose", api.ErrLoose)
	makesNot(t, f, "far", api.ErrFar)
	makesNot(t, many(t, 17), "a", api.ErrFull)
	removes(t, f, "libc")
	makesNot(t, f, "app", api.ErrNone)
	makesNot(t, f, "loose", api.ErrNone)
}

func TestI2Fresh(t *testing.T) {
	f := two(t)
	e, err := Make(f, "app")
	if err != nil {
		t.Fatal(err)
	}
	uses(t, e, f, appParts()...)
	writes(t, f, "other", "word 1\n") // a file that it isn't of
	uses(t, e, f, appParts()...)
	removes(t, f, "other")
	uses(t, e, f, appParts()...)
	libc, err := Make(f, "libc")
	if err != nil {
		t.Fatal(err)
	}
	writes(t, f, "app", appText) // the same text, but another stamp
	usesNot(t, e, f, api.ErrState)
	uses(t, libc, f, api.Part{Name: "libc", Words: []int{5, 22}})
	e, err = Make(f, "app")
	if err != nil {
		t.Fatal(err)
	}
	uses(t, e, f, appParts()...)
	removes(t, f, "libc")
	usesNot(t, e, f, api.ErrState)
	usesNot(t, libc, f, api.ErrState)
	writes(t, f, "libc", libcText)
	usesNot(t, e, f, api.ErrState)
	usesNot(t, libc, f, api.ErrState)
}

// stamped: a part at base 0.
func stamped(s string, stamp int) api.Stamped { return api.Stamped{Name: s, Stamp: stamp} }

func TestI2NotFresh(t *testing.T) {
	f := two(t)
	app, libc := stamped("app", 2), stamped("libc", 1)
	for _, parts := range [][]api.Stamped{
		nil, {}, // there are none
		{stamped("app", 1)}, {stamped("app", 3)}, {stamped("app", 0)}, {stamped("app", -2)}, {stamped("app", math.MaxInt)},
		{stamped("gone", 1)}, {stamped("gone", 0)}, {stamped("", 0)}, {stamped("App", 0)},
		{app, stamped("libc", 2)}, {stamped("app", 1), libc}, {app, libc, stamped("gone", 0)}, {stamped("gone", 0), app, libc},
		{app, stamped("libc", 0), libc}, {app, app, libc, stamped("libc", 3)},
	} {
		usesNot(t, api.Entry{Root: "app", Parts: parts}, f, api.ErrState)
		// Told ahead of Lay's.
		usesNot(t, api.Entry{Root: "app", Parts: parts, Patches: []api.Patch{{Part: 9}}}, f, api.ErrState)
	}
	usesNot(t, api.Entry{}, f, api.ErrState)
	usesNot(t, appEntry(), files.New(), api.ErrState)
}

// TestI2AsItIs: names, bases and patches are the entry's, also where nothing would be reckoned so.
func TestI2AsItIs(t *testing.T) {
	f := two(t)
	libc := func(base int, words ...int) api.Part { return api.Part{Name: "libc", Base: base, Words: words} }
	at := func(base int) api.Stamped { return api.Stamped{Name: "libc", Stamp: 1, Base: base} }
	// A tie without a patch isn't bound; a patch needs no tie.
	uses(t, api.Entry{Root: "libc", Parts: []api.Stamped{at(0)}}, f, libc(0, 11, 22))
	uses(t, api.Entry{Root: "libc", Parts: []api.Stamped{at(0)}, Patches: []api.Patch{{At: 1, Word: 7}, {At: 1, Word: 8}}}, f, libc(0, 11, 8))
	// A part may be there twice, lie anywhere, and be of another root.
	uses(t, api.Entry{Parts: []api.Stamped{at(math.MinInt), at(999)}, Patches: []api.Patch{{Part: 1, Word: math.MaxInt}}}, f,
		libc(math.MinInt, 11, 22), libc(999, math.MaxInt, 22))
	uses(t, api.Entry{Root: "No root", Parts: []api.Stamped{stamped("app", 2)}}, f, api.Part{Name: "app", Words: []int{0, 0, 0}})
	var parts []api.Stamped
	var want []api.Part
	for i := range 3 * api.MaxFiles {
		parts, want = append(parts, at(i)), append(want, libc(i, 11, 22))
	}
	uses(t, api.Entry{Root: "a", Parts: parts}, f, want...)
}

func TestI2ParsesError(t *testing.T) {
	f := two(t)
	writes(t, f, "bad", "word\n")
	writes(t, f, "empty", "")
	app, bad := stamped("app", 2), stamped("bad", 3)
	none := []api.Patch{{Part: 9}}
	for _, parts := range [][]api.Stamped{{bad}, {app, bad}, {bad, app}, {stamped("empty", 4)}} {
		usesNot(t, api.Entry{Root: "app", Parts: parts}, f, api.ErrText)
		usesNot(t, api.Entry{Root: "app", Parts: parts, Patches: none}, f, api.ErrText) // told ahead of Lay's
	}
	usesNot(t, api.Entry{Root: "app", Parts: []api.Stamped{bad, stamped("gone", 1)}}, f, api.ErrState)
}

func TestI2LaysError(t *testing.T) {
	f := two(t)
	for _, p := range []api.Patch{
		{Part: 2}, {Part: -1}, {Part: math.MaxInt}, {Part: math.MinInt}, {At: 3}, {At: -1}, {Part: 1, At: 2}, {At: math.MaxInt}, {At: math.MinInt},
	} {
		e := appEntry()
		e.Patches = append(e.Patches, p)
		usesNot(t, e, f, api.ErrBound)
	}
}

// changed: the entry of app, but for one thing.
func changed(by func(e *api.Entry)) api.Entry {
	e := appEntry()
	by(&e)
	return e
}

// lists of so many parts and patches, each of which may be.
func lists(parts, patches int) api.Entry {
	return api.Entry{
		Root:    "root",
		Parts:   slices.Repeat([]api.Stamped{{Name: "part", Stamp: 1}}, parts),
		Patches: slices.Repeat([]api.Patch{{}}, patches),
	}
}

// longest: an entry whose words are all as long as they may be.
func longest() api.Entry {
	return api.Entry{
		Root:    "abcdefgh",
		Parts:   slices.Repeat([]api.Stamped{{Name: "z_345678", Stamp: api.MaxStamp, Base: api.Window - api.Page}}, api.MaxFiles),
		Patches: slices.Repeat([]api.Patch{{Part: api.MaxFiles - 1, At: api.MaxWords - 1, Word: -api.MaxWord - 1}}, api.MaxFiles*api.MaxTies),
	}
}

func TestI3MayBe(t *testing.T) {
	for _, e := range []api.Entry{
		appEntry(), longest(), lists(1, 0), lists(6, 0), lists(1, 36), lists(6, 36), lists(1, 1),
		changed(func(e *api.Entry) { e.Root = "other" }), // it needn't be among the parts
		changed(func(e *api.Entry) { e.Root = "a_b_9_z8" }),
		changed(func(e *api.Entry) { e.Parts[1] = e.Parts[0] }),
		changed(func(e *api.Entry) { e.Parts[1].Stamp = 1000000 }),
		changed(func(e *api.Entry) { e.Parts[1].Base = 240 }),
		changed(func(e *api.Entry) { e.Patches[1].At = 39 }),
		changed(func(e *api.Entry) { e.Patches[1].Word = 2147483647 }),
		changed(func(e *api.Entry) { e.Patches[1].Word = -2147483648 }),
		changed(func(e *api.Entry) { e.Patches[1] = e.Patches[3] }),
	} {
		if err := Check(e); err != nil {
			t.Errorf("Check(%v): %v", e, err)
		}
		writtenIsRead(t, e)
	}
}

// checksNot: that error; and so says Text, with no text.
func checksNot(t *testing.T, e api.Entry, want error) {
	t.Helper()
	if err := Check(e); err != want {
		t.Errorf("Check(%v): %v, want %v", e, err, want)
	}
	if s, err := Text(e); s != "" || err != want {
		t.Errorf("Text(%v): %q, %v, want %v", e, s, err, want)
	}
}

func TestI3Root(t *testing.T) {
	for s, want := range map[string]error{
		"": api.ErrBound, "abcdefghi": api.ErrBound, strings.Repeat("A", 9): api.ErrBound,
		"App": api.ErrShape, "9app": api.ErrShape, "_app": api.ErrShape, "a b": api.ErrShape, "a\n": api.ErrShape, "\xff": api.ErrShape,
	} {
		checksNot(t, changed(func(e *api.Entry) { e.Root = s }), want)
		checksNot(t, api.Entry{Root: s}, want) // named ahead of ErrMany
	}
}

func TestI3Many(t *testing.T) {
	for _, e := range []api.Entry{lists(0, 0), lists(7, 0), lists(1, 37), lists(0, 1), lists(0, 36), lists(7, 36), lists(6, 37), lists(100, 5000)} {
		checksNot(t, e, api.ErrMany)
		if len(e.Parts) > 0 { // named ahead of what is wrong with a part
			e.Parts[0].Name = "A"
			checksNot(t, e, api.ErrMany)
			e.Parts[0] = api.Stamped{}
			checksNot(t, e, api.ErrMany)
		}
		if len(e.Patches) > 0 {
			e.Patches[0].Part = -1
			checksNot(t, e, api.ErrMany)
		}
	}
}

func TestI3Parts(t *testing.T) {
	for _, i := range []int{0, 1} {
		for s, want := range map[string]error{"": api.ErrBound, "abcdefghi": api.ErrBound, "A": api.ErrShape, "a b": api.ErrShape} {
			checksNot(t, changed(func(e *api.Entry) { e.Parts[i].Name = s }), want)
			checksNot(t, changed(func(e *api.Entry) { e.Parts[i] = stamped(s, 0) }), want) // named ahead of ErrBound
		}
		for _, stamp := range []int{math.MinInt, -1, 0, 1000001, math.MaxInt} {
			checksNot(t, changed(func(e *api.Entry) { e.Parts[i].Stamp = stamp }), api.ErrBound)
		}
		for _, base := range []int{math.MinInt, -256, -16, -1, 1, 8, 15, 17, 24, 239, 241, 255, 256, 272, math.MaxInt - 15, math.MaxInt} {
			checksNot(t, changed(func(e *api.Entry) { e.Parts[i].Base = base }), api.ErrBound)
		}
	}
	// All of one part is told ahead of the next one.
	checksNot(t, changed(func(e *api.Entry) { e.Parts[0].Base, e.Parts[1].Name = 1, "A" }), api.ErrBound)
	checksNot(t, changed(func(e *api.Entry) { e.Parts[0].Stamp, e.Parts[1].Name = 0, "A" }), api.ErrBound)
	checksNot(t, changed(func(e *api.Entry) { e.Parts[0].Name, e.Parts[1].Base = "A", 1 }), api.ErrShape)
	// A part is told ahead of a patch.
	checksNot(t, changed(func(e *api.Entry) { e.Parts[1].Name, e.Patches[0].At = "A", -1 }), api.ErrShape)
}

func TestI3Patches(t *testing.T) {
	for i := range appEntry().Patches {
		for _, part := range []int{math.MinInt, -1, 2, 5, 6, math.MaxInt} {
			checksNot(t, changed(func(e *api.Entry) { e.Patches[i].Part = part }), api.ErrBound)
		}
		for _, at := range []int{math.MinInt, -1, 40, 41, math.MaxInt} {
			checksNot(t, changed(func(e *api.Entry) { e.Patches[i].At = at }), api.ErrBound)
		}
		for _, word := range []int{math.MinInt, -2147483649, 2147483648, math.MaxInt} {
			checksNot(t, changed(func(e *api.Entry) { e.Patches[i].Word = word }), api.ErrBound)
		}
	}
}

// dice: numbers that look drawn, the same each time.
func dice(seed uint32) func(most int) int {
	return func(most int) int {
		seed = seed*1664525 + 1013904223
		return int(seed>>8) % most
	}
}

// drawnText: of an object, most often one that may be.
func drawnText(t *testing.T, draw func(int) int) string {
	t.Helper()
	if draw(20) == 0 {
		return "word\n"
	}
	var o api.Object
	for _, s := range []string{"b", "c", "d"} {
		if draw(4) == 0 {
			o.Needs = append(o.Needs, s)
		}
	}
	for range 1 + draw(api.MaxWords) {
		o.Words = append(o.Words, draw(2000)-1000)
	}
	for _, s := range []string{"x", "y"} {
		if draw(2) == 0 {
			o.Symbols = append(o.Symbols, api.Symbol{Name: s, At: draw(len(o.Words)), Weak: draw(2) == 0})
		}
	}
	for at := 0; at < len(o.Words) && len(o.Ties) < api.MaxTies; at += 1 + draw(9) {
		tie := api.Tie{At: at, Kind: 1 + draw(3), Add: draw(40) - 20}
		if tie.Kind != api.Base {
			tie.Name, tie.Weak = []string{"x", "y"}[draw(2)], draw(4) > 0
		}
		o.Ties = append(o.Ties, tie)
	}
	s, err := object.Text(o)
	if err != nil {
		t.Fatal(err)
	}
	return s
}

// kept: an entry, and how often each of its files had been written, or removed, when it was made.
type kept struct {
	e    api.Entry
	seen map[string]int
}

// TestW2: whatever is written and removed, an entry is used just as long as all of its files are as they were, and then it is what is reckoned anew.
func TestW2(t *testing.T) {
	draw, fresh, stale := dice(5), 0, 0
	for range 60 {
		f, turns, all := files.New(), map[string]int{}, []kept{}
		for range 60 {
			s := []string{"a", "b", "c", "d", "e"}[draw(5)]
			switch draw(4) {
			case 0, 1:
				writes(t, f, s, drawnText(t, draw))
				turns[s]++
			case 2:
				if f.Remove(s) == nil {
					turns[s]++
				}
			default:
				all = keep(t, all, f, s, turns)
			}
			for _, k := range all {
				if k.asItWas(turns) {
					fresh++
					parts, err := image.Load(f, k.e.Root)
					if err != nil {
						t.Fatalf("Load(%q), of files as they were: %v", k.e.Root, err)
					}
					uses(t, k.e, f, parts...)
				} else {
					stale++
					usesNot(t, k.e, f, api.ErrState)
				}
			}
		}
	}
	if fresh < 500 || stale < 500 {
		t.Errorf("%d fresh, %d stale: a draw that tells little", fresh, stale)
	}
}

// keep an entry of that root, if it can be reckoned, else just that error.
func keep(t *testing.T, all []kept, f *files.Files, root string, turns map[string]int) []kept {
	t.Helper()
	names, _, bases, patches, want := image.Reckon(f, root)
	e, err := Make(f, root)
	if err != want {
		t.Fatalf("Make(%q): %v, want %v", root, err, want)
	}
	if err != nil {
		return all
	}
	if e.Root != root || len(e.Parts) != len(names) || !slices.Equal(e.Patches, patches) {
		t.Fatalf("Make(%q): %v, want %q at %v, %v", root, e, names, bases, patches)
	}
	seen := map[string]int{}
	for i, s := range names {
		_, stamp, _ := f.Read(s)
		if e.Parts[i] != (api.Stamped{Name: s, Stamp: stamp, Base: bases[i]}) {
			t.Errorf("Make(%q): part %d is %v, want %q of %d at %d", root, i, e.Parts[i], s, stamp, bases[i])
		}
		seen[s] = turns[s]
	}
	if err := Check(e); err != nil {
		t.Errorf("Check(%v), which was made: %v", e, err)
	}
	writtenIsRead(t, e)
	return append(all, kept{e, seen})
}

// asItWas: has nobody touched one of its files since?
func (k kept) asItWas(turns map[string]int) bool {
	for s, n := range k.seen {
		if turns[s] != n {
			return false
		}
	}
	return true
}

// TestZ1: an error changes nothing, and neither does any other call.
func TestZ1(t *testing.T) {
	f := two(t)
	writes(t, f, "bad", "word\n")
	makesNot(t, f, "bad", api.ErrText)
	makesNot(t, f, "gone", api.ErrNone)
	usesNot(t, api.Entry{Root: "a", Parts: []api.Stamped{stamped("bad", 3)}}, f, api.ErrText)
	usesNot(t, api.Entry{Root: "a", Parts: []api.Stamped{stamped("app", 9)}}, f, api.ErrState)
	makes(t, f, "app", appEntry())
	uses(t, appEntry(), f, appParts()...)
	for s, want := range map[string]string{"app": appText + "2", "libc": libcText + "1", "bad": "word\n3"} {
		if text, stamp, err := f.Read(s); err != nil || fmt.Sprint(text, stamp) != want {
			t.Errorf("Read(%q): %q, %d, %v", s, text, stamp, err)
		}
	}
	if got := f.List(); !slices.Equal(got, []string{"app", "bad", "libc"}) {
		t.Errorf("List: %q", got)
	}
}

// TestZ2: what is handed in stays as it was, what stands behind it is not read.
func TestZ2(t *testing.T) {
	f := two(t)
	parts := append(appEntry().Parts, api.Stamped{Name: "A", Stamp: -1, Base: 7}) // would be refused
	patches := append(appEntry().Patches, api.Patch{Part: 9})
	told := fmt.Sprint(parts, patches)
	e := api.Entry{Root: "app", Parts: parts[:2], Patches: patches[:4]}
	uses(t, e, f, appParts()...)
	writtenIsRead(t, e)
	if err := Check(e); err != nil {
		t.Errorf("Check: %v", err)
	}
	if got := fmt.Sprint(parts, patches); got != told {
		t.Errorf("what was handed in became %s", got)
	}
}

// TestZ2Out: what was told once is nothing to those who ask again.
func TestZ2Out(t *testing.T) {
	f := two(t)
	for range 2 {
		e, err := Make(f, "app")
		if err != nil || !equal(e, appEntry()) {
			t.Fatalf("Make: %v, %v", e, err)
		}
		l, err := Use(e, f)
		if err != nil || !equalParts(l, appParts()) {
			t.Fatalf("Use: %v, %v", l, err)
		}
		x, err := Parse(appLine)
		if err != nil || !equal(x, appEntry()) {
			t.Fatalf("Parse: %v, %v", x, err)
		}
		for _, some := range []api.Entry{e, x} {
			some.Parts[0], some.Patches[0] = api.Stamped{Name: "other"}, api.Patch{Word: 77}
		}
		l[0].Name, l[0].Words[1], l[1].Words[0] = "other", 77, 77
	}
	// Two parts of one file share none.
	twice := api.Entry{Parts: []api.Stamped{stamped("libc", 1), stamped("libc", 1)}}
	l, err := Use(twice, f)
	if err != nil || len(l) != 2 {
		t.Fatalf("Use: %v, %v", l, err)
	}
	l[0].Words[0] = 77
	if l[1].Words[0] != 11 {
		t.Error("two parts share memory")
	}
}
