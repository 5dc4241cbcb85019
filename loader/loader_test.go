package loader

import (
	"fmt"
	"math"
	"slices"
	"strings"
	"testing"

	"marlinspike/api"
	"marlinspike/disk"
	"marlinspike/files"
	"marlinspike/image"
	"marlinspike/object"
	"marlinspike/shelf"
)

const (
	appText  = "need libc\nword 0\nword 0\nword 0\nsymbol main 0\nwhole 0 0 print\nweak whole 1 0 missing\nnear 2 0 print\n"
	libcText = "word 11\nword 22\nsymbol print 1\nweak symbol hook 0\nbase 0 5\n"
)

// formatted: a disk with an empty shelf.
func formatted(t *testing.T) *disk.Disk {
	t.Helper()
	d, err := disk.New(112)
	if err != nil {
		t.Fatal(err)
	}
	if err := shelf.Format(d); err != nil {
		t.Fatal(err)
	}
	return d
}

// over these files, and that disk.
func over(t *testing.T, f *files.Files, d *disk.Disk) *Loader {
	t.Helper()
	l, err := New(f, d)
	if err != nil || l == nil {
		t.Fatalf("New: %v", err)
	}
	return l
}

// writes a file that may be.
func writes(t *testing.T, f *files.Files, s, text string) {
	t.Helper()
	if err := f.Write(s, text); err != nil {
		t.Fatalf("Write(%q, %q): %v", s, text, err)
	}
}

// removes a file that is there.
func removes(t *testing.T, f *files.Files, s string) {
	t.Helper()
	if err := f.Remove(s); err != nil {
		t.Fatalf("Remove(%q): %v", s, err)
	}
}

// two files: libc, of stamp 1, and app, of stamp 2.
func two(t *testing.T) *files.Files {
	t.Helper()
	f := files.New()
	writes(t, f, "libc", libcText)
	writes(t, f, "app", appText)
	return f
}

func builds(t *testing.T, l *Loader, root string, want error) {
	t.Helper()
	if err := l.Build(root); err != want {
		t.Errorf("Build(%q): %v, want %v", root, err, want)
	}
}

func drops(t *testing.T, l *Loader, root string, want error) {
	t.Helper()
	if err := l.Drop(root); err != want {
		t.Errorf("Drop(%q): %v, want %v", root, err, want)
	}
}

func equalParts(a, b []api.Part) bool {
	return slices.EqualFunc(a, b, func(p, q api.Part) bool {
		return p.Name == q.Name && p.Base == q.Base && slices.Equal(p.Words, q.Words)
	})
}

// loads: just these parts, by what is kept or not.
func loads(t *testing.T, l *Loader, root string, byKept bool, want ...api.Part) {
	t.Helper()
	if got, kept, err := l.Load(root); err != nil || kept != byKept || !equalParts(got, want) {
		t.Errorf("Load(%q): %v, %v, %v, want %v, %v", root, got, kept, err, want, byKept)
	}
}

// loadsNot: that error, and nothing beside it.
func loadsNot(t *testing.T, l *Loader, root string, want error) {
	t.Helper()
	if got, kept, err := l.Load(root); err != want || kept || len(got) > 0 {
		t.Errorf("Load(%q): %v, %v, %v, want %v", root, got, kept, err, want)
	}
}

// has: entries of just these roots, in order.
func has(t *testing.T, l *Loader, want string) {
	t.Helper()
	if got := strings.Join(l.Roots(), " "); got != want {
		t.Errorf("Roots: %q, want %q", got, want)
	}
}

// part of an image.
func part(s string, base int, words ...int) api.Part {
	return api.Part{Name: s, Base: base, Words: words}
}

func TestM1New(t *testing.T) {
	newNot := func(d *disk.Disk, want error) {
		t.Helper()
		if l, err := New(two(t), d); l != nil || err != want {
			t.Errorf("New: %v, %v, want %v", l, err, want)
		}
	}
	for _, n := range []int{1, 111, 112, 120} {
		d, err := disk.New(n)
		if err != nil {
			t.Fatal(err)
		}
		newNot(d, api.ErrText)
	}
	d := formatted(t)
	has(t, over(t, files.New(), d), "")
	d.Arm(0)
	_ = d.Flush()
	newNot(d, api.ErrDown)
	d.Restart(0)
	has(t, over(t, files.New(), d), "")
}

func TestM1Build(t *testing.T) {
	f, d := two(t), formatted(t)
	l := over(t, f, d)
	has(t, l, "")
	builds(t, l, "libc", nil)
	has(t, l, "libc")
	builds(t, l, "app", nil)
	has(t, l, "libc app")
	builds(t, l, "libc", nil) // in its place
	has(t, l, "libc app")
	s, err := shelf.Open(d)
	if err != nil {
		t.Fatal(err)
	}
	e, ok := s.Get("app")
	if got := fmt.Sprint(e, ok); got != "{app [{app 2 0} {libc 1 16}] [{0 0 17} {0 1 0} {0 2 15} {1 0 21}]} true" {
		t.Errorf("there is %s", got)
	}
	d.Restart(0) // for good
	has(t, over(t, f, d), "libc app")
	drops(t, l, "libc", nil)
	drops(t, l, "libc", api.ErrNone)
	drops(t, l, "", api.ErrNone)
	drops(t, l, "App", api.ErrNone)
	has(t, l, "app")
	d.Restart(0)
	has(t, over(t, f, d), "app")
}

func TestM1Refused(t *testing.T) {
	f, d := two(t), formatted(t)
	l := over(t, f, d)
	writes(t, f, "bad", "word\n")
	writes(t, f, "loose", "need libc\nword 1\nwhole 0 0 nobody\n")
	writes(t, f, "far", "need libc\nword 1\nnear 0 484 print\n")
	wrong := func(root string) {
		t.Helper()
		builds(t, l, "gone", api.ErrNone)
		builds(t, l, "", api.ErrNone)
		builds(t, l, "bad", api.ErrText)
		builds(t, l, "loose", api.ErrLoose)
		builds(t, l, "far", api.ErrFar)
		has(t, l, root)
	}
	wrong("")
	builds(t, l, "app", nil)
	builds(t, l, "libc", nil)
	wrong("app libc")
	writes(t, f, "far", "word 1\n")
	builds(t, l, "far", nil)
	writes(t, f, "loose", "word 1\n")
	builds(t, l, "loose", api.ErrMany) // Put's
	builds(t, l, "bad", api.ErrText)   // Make's, ahead of that
	builds(t, l, "gone", api.ErrNone)
	builds(t, l, "app", nil)
	has(t, l, "app libc far")
	d.Arm(0)
	builds(t, l, "loose", api.ErrMany)
	drops(t, l, "loose", api.ErrNone)
	builds(t, l, "app", api.ErrDown)
	d.Restart(0)
	l = over(t, f, d)
	d.Arm(0)
	drops(t, l, "app", api.ErrDown)
	d.Restart(0)
	has(t, over(t, f, d), "app libc far")
}

// TestGet: what is kept of a root, fresh or not; what comes out is the caller's.
func TestGet(t *testing.T) {
	f, d := two(t), formatted(t)
	l := over(t, f, d)
	gets := func(root, want string) {
		t.Helper()
		e, ok := l.Get(root)
		if got := fmt.Sprint(e, ok); got != want {
			t.Errorf("Get(%q): %s, want %s", root, got, want)
		}
		for i := range e.Parts {
			e.Parts[i].Stamp = 77
		}
	}
	gets("libc", "{ [] []} false")
	builds(t, l, "libc", nil)
	gets("libc", "{libc [{libc 1 0}] [{0 0 5}]} true")
	writes(t, f, "libc", "word 1\n")
	gets("libc", "{libc [{libc 1 0}] [{0 0 5}]} true")
	gets("app", "{ [] []} false")
	gets("", "{ [] []} false")
	drops(t, l, "libc", nil)
	gets("libc", "{ [] []} false")
}

// TestM1Stale: an entry that was there, of which a file is gone, is not built anew, and stays.
func TestM1Stale(t *testing.T) {
	f := two(t)
	l := over(t, f, formatted(t))
	builds(t, l, "app", nil)
	removes(t, f, "libc")
	builds(t, l, "app", api.ErrNone)
	has(t, l, "app")
	drops(t, l, "app", nil) // also if nothing could be reckoned
	has(t, l, "")
}

// TestM2Session: as the document's example has it.
func TestM2Session(t *testing.T) {
	f, d := two(t), formatted(t)
	l := over(t, f, d)
	parts := []api.Part{part("app", 0, 17, 0, 15), part("libc", 16, 21, 22)}
	loads(t, l, "app", false, parts...)
	builds(t, l, "app", nil)
	loads(t, l, "app", true, parts...)
	loads(t, l, "libc", false, part("libc", 0, 5, 22)) // it has none of its own
	loads(t, over(t, f, d), "app", true, parts...)
	writes(t, f, "libc", "word 1\nsymbol print 0\n")
	parts = []api.Part{part("app", 0, 16, 0, 14), part("libc", 16, 1)}
	loads(t, l, "app", false, parts...)
	loads(t, over(t, f, d), "app", false, parts...)
	builds(t, l, "app", nil)
	loads(t, l, "app", true, parts...)
	writes(t, f, "other", "word 1\n") // it isn't of that one
	loads(t, l, "app", true, parts...)
	removes(t, f, "libc")
	loadsNot(t, l, "app", api.ErrNone)
	has(t, l, "app")
	writes(t, f, "libc", "word 1\nsymbol print 0\n") // the same text, but another stamp
	loads(t, l, "app", false, parts...)
	drops(t, l, "app", nil)
	loads(t, l, "app", false, parts...)
	builds(t, l, "app", nil)
	loads(t, l, "app", true, parts...)
}

func TestM2LoadsError(t *testing.T) {
	f := two(t)
	l := over(t, f, formatted(t))
	writes(t, f, "bad", "word\n")
	writes(t, f, "loose", "need libc\nword 1\nwhole 0 0 nobody\n")
	writes(t, f, "far", "need libc\nword 1\nnear 0 484 print\n")
	for root, want := range map[string]error{"": api.ErrNone, "gone": api.ErrNone, "App": api.ErrNone, "bad": api.ErrText, "loose": api.ErrLoose, "far": api.ErrFar} {
		loadsNot(t, l, root, want)
	}
	builds(t, l, "app", nil)
	writes(t, f, "app", "word\n")
	loadsNot(t, l, "app", api.ErrText) // not by what was kept of it
}

// put an entry that no loader has built.
func put(t *testing.T, d *disk.Disk, e api.Entry) {
	t.Helper()
	s, err := shelf.Open(d)
	if err != nil {
		t.Fatal(err)
	}
	if err := s.Put(e); err != nil {
		t.Fatal(err)
	}
}

// TestM2AsItIs: what is kept is used as it is, if it is fresh, and refused as Use refuses it; else it is nothing to Load.
func TestM2AsItIs(t *testing.T) {
	f, d := two(t), formatted(t)
	writes(t, f, "bad", "word\n")
	libc := []api.Stamped{{Name: "libc", Stamp: 1, Base: 32}}
	put(t, d, api.Entry{Root: "libc", Parts: libc, Patches: []api.Patch{{At: 1, Word: 7}}})
	put(t, d, api.Entry{Root: "gone", Parts: libc})
	l := over(t, f, d)
	loads(t, l, "libc", true, part("libc", 32, 11, 7))
	loads(t, l, "gone", true, part("libc", 32, 11, 22))
	put(t, d, api.Entry{Root: "libc", Parts: libc, Patches: []api.Patch{{At: 2}}})
	put(t, d, api.Entry{Root: "gone", Parts: []api.Stamped{{Name: "bad", Stamp: 3}}})
	l = over(t, f, d)
	loadsNot(t, l, "libc", api.ErrBound)
	loadsNot(t, l, "gone", api.ErrText)
	has(t, l, "libc gone")
	writes(t, f, "bad", "word 1\n")
	writes(t, f, "libc", libcText)
	loads(t, l, "libc", false, part("libc", 0, 5, 22))
	loadsNot(t, l, "gone", api.ErrNone)
}

// dice: numbers that look drawn, the same each time.
func dice(seed uint32) func(most int) int {
	return func(most int) int {
		seed = seed*1664525 + 1013904223
		return int(seed>>8) % most
	}
}

// drawnText: of an object, most often one that may be.
func drawnText(t *testing.T, draw func(int) int) string {
	t.Helper()
	if draw(20) == 0 {
		return "word\n"
	}
	var o api.Object
	for _, s := range []string{"b", "c", "d"} {
		if draw(4) == 0 {
			o.Needs = append(o.Needs, s)
		}
	}
	for range 1 + draw(api.MaxWords) {
		o.Words = append(o.Words, draw(2000)-1000)
	}
	for _, s := range []string{"x", "y"} {
		if draw(2) == 0 {
			o.Symbols = append(o.Symbols, api.Symbol{Name: s, At: draw(len(o.Words)), Weak: draw(2) == 0})
		}
	}
	for at := 0; at < len(o.Words) && len(o.Ties) < api.MaxTies; at += 1 + draw(9) {
		tie := api.Tie{At: at, Kind: 1 + draw(3), Add: draw(40) - 20}
		if tie.Kind != api.Base {
			tie.Name, tie.Weak = []string{"x", "y"}[draw(2)], draw(4) > 0
		}
		o.Ties = append(o.Ties, tie)
	}
	s, err := object.Text(o)
	if err != nil {
		t.Fatal(err)
	}
	return s
}

// model: what a loader should have: the roots in order; of each, how often each of its files had been touched when it was built.
type model struct {
	roots []string
	seen  map[string]map[string]int
	turns map[string]int
}

// built: what there is behind Build, which says that it went well.
func (m *model) built(f *files.Files, root string) {
	names, _, _, _, _ := image.Reckon(f, root)
	if !slices.Contains(m.roots, root) {
		m.roots = append(m.roots, root)
	}
	m.seen[root] = map[string]int{}
	for _, s := range names {
		m.seen[root][s] = m.turns[s]
	}
}

func (m *model) dropped(root string) {
	m.roots = slices.DeleteFunc(m.roots, func(s string) bool { return s == root })
	delete(m.seen, root)
}

// fresh: is there an entry of it, of which nobody has touched a file since?
func (m *model) fresh(root string) bool {
	for s, n := range m.seen[root] {
		if m.turns[s] != n {
			return false
		}
	}
	return m.seen[root] != nil
}

// wanted: what Build should say.
func (m *model) wanted(f *files.Files, root string) error {
	if _, _, _, _, err := image.Reckon(f, root); err != nil {
		return err
	}
	if !slices.Contains(m.roots, root) && len(m.roots) == api.MaxRoots {
		return api.ErrMany
	}
	return nil
}

// asReckoned: each root is loaded as what is reckoned anew; by what is kept, just if that is fresh.
func (m *model) asReckoned(t *testing.T, l *Loader, f *files.Files) (kept int) {
	t.Helper()
	has(t, l, strings.Join(m.roots, " "))
	for _, root := range []string{"a", "b", "c", "d", "e"} {
		want, err := image.Load(f, root)
		if err != nil {
			loadsNot(t, l, root, err)
			continue
		}
		loads(t, l, root, m.fresh(root), want...)
		if m.fresh(root) {
			kept++
		}
	}
	return kept
}

// TestW2: whatever was written, removed, built, dropped.
func TestW2(t *testing.T) {
	draw, kept := dice(31), 0
	for range 40 {
		f, d := files.New(), formatted(t)
		l, m := over(t, f, d), &model{seen: map[string]map[string]int{}, turns: map[string]int{}}
		for range 50 {
			s := []string{"a", "b", "c", "d", "e"}[draw(5)]
			switch draw(8) {
			case 0, 1:
				writes(t, f, s, drawnText(t, draw))
				m.turns[s]++
			case 2:
				if f.Remove(s) == nil {
					m.turns[s]++
				}
			case 3:
				want := error(nil)
				if !slices.Contains(m.roots, s) {
					want = api.ErrNone
				}
				drops(t, l, s, want)
				m.dropped(s)
			case 4:
				d.Restart(uint64(draw(1 << 20)))
				l = over(t, f, d)
			default:
				want := m.wanted(f, s)
				builds(t, l, s, want)
				if want == nil {
					m.built(f, s)
				}
			}
			kept += m.asReckoned(t, l, f)
		}
	}
	if kept < 500 {
		t.Errorf("%d are kept: a draw that tells little", kept)
	}
}

// entryOf a root, as the disk has it.
func entryOf(t *testing.T, d *disk.Disk, root string) string {
	t.Helper()
	s, err := shelf.Open(d)
	if err != nil {
		t.Fatal(err)
	}
	e, ok := s.Get(root)
	return fmt.Sprint(e, ok)
}

// all entries, as the disk has them.
func all(t *testing.T, d *disk.Disk, l *Loader) string {
	t.Helper()
	told := ""
	for _, root := range l.Roots() {
		told += entryOf(t, d, root) + ";"
	}
	return told
}

// TestW5: behind a fall at any step all is as it was ahead of what was being done, or behind it; and loaded as what is reckoned anew.
func TestW5(t *testing.T) {
	draw, falls := dice(32), 0
	for range 300 {
		f := files.New()
		for _, s := range []string{"a", "b", "c", "d"} {
			writes(t, f, s, drawnText(t, draw))
		}
		d, again := formatted(t), formatted(t) // the same is done on another disk, that never falls
		l, m := over(t, f, d), over(t, f, again)
		d.Arm(draw(80))
		for range 12 {
			root := []string{"a", "b", "c", "d"}[draw(4)]
			do := (*Loader).Build
			if draw(4) == 0 {
				do = (*Loader).Drop
			}
			if draw(3) == 0 {
				writes(t, f, root, drawnText(t, draw))
			}
			ahead := all(t, again, m)
			err := do(l, root)
			if want := do(m, root); err != want && err != api.ErrDown {
				t.Fatalf("%v, want %v", err, want)
			}
			if err != api.ErrDown {
				continue
			}
			falls++
			d.Restart(uint64(draw(1<<24))<<20 ^ uint64(draw(1<<24)))
			l = over(t, f, d)
			if got, behind := all(t, d, l), all(t, again, m); got != ahead && got != behind {
				t.Fatalf("there is %s, ahead there was %s, behind it there is %s", got, ahead, behind)
			}
			break
		}
		for _, root := range []string{"a", "b", "c", "d", "e"} {
			got, _, err := l.Load(root)
			if want, e := image.Load(f, root); err != e || !equalParts(got, want) {
				t.Errorf("Load(%q): %v, %v, want %v, %v", root, got, err, want, e)
			}
		}
	}
	if falls < 100 {
		t.Errorf("%d falls: a draw that tells little", falls)
	}
}

// TestZ1: what is asked at names of all kinds, and of a disk that is down, is answered.
func TestZ1(t *testing.T) {
	f, d := two(t), formatted(t)
	l := over(t, f, d)
	builds(t, l, "app", nil)
	for _, root := range []string{"", "\x00", "\xff\xfe", "a b", "app\n", "äpp", strings.Repeat("a", 10000)} {
		builds(t, l, root, api.ErrNone)
		drops(t, l, root, api.ErrNone)
		loadsNot(t, l, root, api.ErrNone)
	}
	d.Arm(0)
	_ = d.Flush()
	_ = l.Build("app")
	_ = l.Drop("app")
	_, _, _ = l.Load("app")
	_ = l.Roots()
	d.Restart(math.MaxUint64)
	has(t, over(t, f, d), "app")
}

// TestZ2: what was told once is nothing to those who ask again.
func TestZ2(t *testing.T) {
	f, d := two(t), formatted(t)
	l := over(t, f, d)
	for range 3 {
		parts, kept, err := l.Load("app")
		if err != nil || !equalParts(parts, []api.Part{part("app", 0, 17, 0, 15), part("libc", 16, 21, 22)}) {
			t.Fatalf("Load: %v, %v, %v", parts, kept, err)
		}
		parts[0].Name, parts[0].Words[1], parts[1].Words[0] = "other", 77, 77
		builds(t, l, "app", nil)
		roots := l.Roots()
		if !slices.Equal(roots, []string{"app"}) {
			t.Fatalf("Roots: %q", roots)
		}
		roots[0] = "other"
	}
	// Another loader, over other files and another disk, has nothing of it.
	x := over(t, files.New(), formatted(t))
	has(t, x, "")
	loadsNot(t, x, "app", api.ErrNone)
}
