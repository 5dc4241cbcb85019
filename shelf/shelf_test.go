package shelf

import (
	"fmt"
	"slices"
	"strings"
	"testing"

	"marlinspike/api"
	"marlinspike/disk"
)

// on a disk of so many sectors.
func on(t *testing.T, n int) *disk.Disk {
	t.Helper()
	d, err := disk.New(n)
	if err != nil {
		t.Fatal(err)
	}
	return d
}

// formatted: a disk with an empty shelf.
func formatted(t *testing.T) *disk.Disk {
	t.Helper()
	d := on(t, minSectors)
	formats(t, d, nil)
	return d
}

func formats(t *testing.T, d *disk.Disk, want error) {
	t.Helper()
	if err := Format(d); err != want {
		t.Fatalf("Format: %v, want %v", err, want)
	}
}

// opens: a shelf.
func opens(t *testing.T, d *disk.Disk) *Shelf {
	t.Helper()
	s, err := Open(d)
	if err != nil || s == nil {
		t.Fatalf("Open: %v", err)
	}
	return s
}

// opensNot: that error, and no shelf.
func opensNot(t *testing.T, d *disk.Disk, want error) {
	t.Helper()
	if s, err := Open(d); s != nil || err != want {
		t.Errorf("Open: %v, %v, want %v", s, err, want)
	}
}

// small: an entry of that root, of one file, of that stamp.
func small(root string, stamp int) api.Entry {
	return api.Entry{Root: root, Parts: []api.Stamped{{Name: root, Stamp: stamp}}}
}

// great: an entry of that root, of so many parts and patches, with words as long as they may be.
func great(root string, parts, patches int) api.Entry {
	e := api.Entry{Root: root}
	for i := range parts {
		e.Parts = append(e.Parts, api.Stamped{Name: fmt.Sprint("part_67", i), Stamp: api.MaxStamp, Base: 240})
	}
	for i := range patches {
		e.Patches = append(e.Patches, api.Patch{Part: parts - 1, At: 39, Word: i - 1<<31})
	}
	return e
}

func equal(a, b api.Entry) bool {
	return a.Root == b.Root && slices.Equal(a.Parts, b.Parts) && slices.Equal(a.Patches, b.Patches)
}

// entriesOf a shelf, as its calls tell them.
func entriesOf(t *testing.T, s *Shelf) []api.Entry {
	t.Helper()
	var l []api.Entry
	for _, root := range s.Roots() {
		e, ok := s.Get(root)
		if !ok || e.Root != root {
			t.Fatalf("Get(%q): %v, %v", root, e, ok)
		}
		l = append(l, e)
	}
	for _, root := range []string{"", "none", "A", "root ", "a\n"} {
		if e, ok := s.Get(root); ok || !equal(e, api.Entry{}) {
			t.Errorf("Get(%q): %v, %v", root, e, ok)
		}
	}
	return l
}

// has: just these entries, in order.
func has(t *testing.T, s *Shelf, want ...api.Entry) {
	t.Helper()
	if got := entriesOf(t, s); !slices.EqualFunc(got, want, equal) {
		t.Errorf("there are %v, want %v", got, want)
	}
}

// hasForGood: just these entries; also if the disk is restarted, and the shelf is opened anew.
func hasForGood(t *testing.T, s *Shelf, d *disk.Disk, want ...api.Entry) {
	t.Helper()
	has(t, s, want...)
	has(t, opens(t, d), want...)
	d.Restart(0)
	has(t, opens(t, d), want...)
	has(t, s, want...)
}

func puts(t *testing.T, s *Shelf, e api.Entry, want error) {
	t.Helper()
	if err := s.Put(e); err != want {
		t.Errorf("Put(%v): %v, want %v", e, err, want)
	}
}

func drops(t *testing.T, s *Shelf, root string, want error) {
	t.Helper()
	if err := s.Drop(root); err != want {
		t.Errorf("Drop(%q): %v, want %v", root, err, want)
	}
}

func TestL1Format(t *testing.T) {
	for _, n := range []int{1, 2, 55, 110, 111} {
		d := on(t, n)
		formats(t, d, api.ErrFull)
		opensNot(t, d, api.ErrText)
		for at := range n { // an error changes nothing
			if s, err := d.Read(at); err != nil || strings.Trim(s, "\x00") != "" {
				t.Errorf("Read(%d): %q, %v", at, s, err)
			}
		}
		d.Arm(0)
		formats(t, d, api.ErrFull) // told ahead of the disk's
		if d.Down() {
			t.Error("Format that is refused took a step")
		}
	}
	for n := 112; n <= 120; n++ {
		d := on(t, n)
		formats(t, d, nil)
		hasForGood(t, opens(t, d), d)
	}
}

// TestL1Whatever: what was on the disk is no more.
func TestL1Whatever(t *testing.T) {
	for _, fill := range []string{"", "x", strings.Repeat("\xff", 64), "app 1 0 app 1 0\n", mark + "\x01\x07", mark + "\x00\x37"} {
		d := on(t, 120)
		for at := range 120 {
			if err := d.Write(at, fill); err != nil {
				t.Fatal(err)
			}
		}
		formats(t, d, nil)
		hasForGood(t, opens(t, d), d)
		s := opens(t, d)
		puts(t, s, small("a", 1), nil)
		puts(t, s, great("b", 6, 36), nil)
		hasForGood(t, s, d, small("a", 1), great("b", 6, 36))
		formats(t, d, nil)
		hasForGood(t, opens(t, d), d)
		for _, e := range []api.Entry{small("c", 1), small("b", 2)} {
			puts(t, opens(t, d), e, nil)
		}
		hasForGood(t, opens(t, d), d, small("c", 1), small("b", 2))
	}
}

func TestL1Open(t *testing.T) {
	for _, n := range []int{1, 111, 112, 120} {
		d := on(t, n)
		opensNot(t, d, api.ErrText)
		d.Arm(0)
		opensNot(t, d, api.ErrText)
		_ = d.Flush()
		opensNot(t, d, api.ErrDown)
		d.Restart(0)
		opensNot(t, d, api.ErrText)
	}
	d := formatted(t)
	s := opens(t, d)
	puts(t, s, small("a", 1), nil)
	d.Arm(0)
	has(t, opens(t, d), small("a", 1)) // not down as yet
	_ = d.Flush()
	opensNot(t, d, api.ErrDown)
	formats(t, d, api.ErrDown)
	d.Restart(0)
	has(t, opens(t, d), small("a", 1))
}

// written: a disk with that head, and that text in its body.
func written(t *testing.T, n int, h head, text string) *disk.Disk {
	t.Helper()
	d := on(t, n)
	if _, err := writeBody(d, h.body%2, text); err != nil {
		t.Fatal(err)
	}
	if err := writeHead(d, h); err != nil {
		t.Fatal(err)
	}
	return d
}

// TestL1NoShelf: what no shelf has written.
func TestL1NoShelf(t *testing.T) {
	a, b, c := "a 1 0 a 1 0\n", "b 1 0 a 1 0\n", "c 1 0 a 1 0\n"
	has(t, opens(t, written(t, 112, head{1, 1}, a+b+c)), api.Entry{Root: "a", Parts: small("a", 1).Parts},
		api.Entry{Root: "b", Parts: small("a", 1).Parts}, api.Entry{Root: "c", Parts: small("a", 1).Parts})
	for _, text := range []string{
		a + a, a + b + a, a + b + c + "d 1 0 a 1 0\n", // a root twice, or more than there may be
		"a", a + "b", a + b[:11], "\n", a + "\n", "\n" + a, a + "x\n", "a 1 0 a 1 0\r\n", a + "\x00" + b, "\x00" + a, "A 1 0 a 1 0\n", "a 0 0\n", "a 1 0 a 0 0\n",
	} {
		for body := range 2 {
			opensNot(t, written(t, 112, head{body, (len(text) + 63) / 64}, text), api.ErrText)
		}
	}
	for _, h := range []head{{2, 0}, {2, 1}, {255, 1}, {0, 56}, {1, 56}, {1, 255}, {255, 255}} {
		opensNot(t, written(t, 120, h, a), api.ErrText)
	}
	opensNot(t, written(t, 111, head{}, ""), api.ErrText)
	opensNot(t, written(t, 111, head{1, 1}, a), api.ErrText)
}

// TestL1Changed: whatever a byte of it becomes, there is a shelf or none.
func TestL1Changed(t *testing.T) {
	for at := range 2 {
		for i := range api.Sector {
			for _, to := range []byte{0, 1, 2, 10, 54, 55, 56, 100, 'a', 127, 255} {
				d := written(t, 112, head{0, 1}, "a 1 0 a 1 0\nb 1 0 a 1 0\n")
				s, err := d.Read(at)
				if err != nil {
					t.Fatal(err)
				}
				b := []byte(s)
				b[i] = to
				if err := d.Write(at, string(b)); err != nil {
					t.Fatal(err)
				}
				x, err := Open(d)
				if err != nil && (err != api.ErrText || x != nil) {
					t.Errorf("Open: %v, %v", x, err)
				}
				if at == 0 && i < len(mark) && to != s[i] && err == nil {
					t.Errorf("there is a shelf behind the mark %q", b)
				}
			}
		}
	}
}

func TestL2(t *testing.T) {
	d := formatted(t)
	s := opens(t, d)
	hasForGood(t, s, d)
	a, b, c := small("a", 1), great("b", 3, 7), great("c", 6, 36)
	puts(t, s, b, nil)
	hasForGood(t, s, d, b)
	puts(t, s, a, nil)
	hasForGood(t, s, d, b, a) // as they were put, not by their names
	puts(t, s, c, nil)
	hasForGood(t, s, d, b, a, c)
	for _, root := range []string{"a", "b", "c"} { // in the place of the one of its root, also if there are MaxRoots
		puts(t, s, small(root, 9), nil)
	}
	hasForGood(t, s, d, small("b", 9), small("a", 9), small("c", 9))
	puts(t, s, a, nil)
	puts(t, s, a, nil)
	hasForGood(t, s, d, small("b", 9), a, small("c", 9))
	drops(t, s, "b", nil)
	hasForGood(t, s, d, a, small("c", 9))
	puts(t, s, b, nil) // behind the others
	hasForGood(t, s, d, a, small("c", 9), b)
	drops(t, s, "c", nil)
	hasForGood(t, s, d, a, b)
	drops(t, s, "b", nil)
	drops(t, s, "a", nil)
	hasForGood(t, s, d)
	puts(t, s, c, nil)
	hasForGood(t, s, d, c)
}

// TestL2Most: as much as there may be, on the least disk.
func TestL2Most(t *testing.T) {
	d := formatted(t)
	s := opens(t, d)
	var want []api.Entry
	for _, root := range []string{"abcdefgh", "z_345678", "abcdefg_"} {
		want = append(want, great(root, api.MaxFiles, api.MaxFiles*api.MaxTies))
	}
	for range 3 {
		for _, e := range want {
			puts(t, s, e, nil)
		}
		hasForGood(t, s, d, want...)
	}
}

// TestL2Sizes: also where a text ends just with a sector.
func TestL2Sizes(t *testing.T) {
	d := formatted(t)
	s := opens(t, d)
	ends := 0
	for parts := 1; parts <= 6; parts++ {
		for patches := range 37 {
			e := great("r", parts, patches)
			for n := range 3 {
				e.Parts[0].Stamp = []int{1, 10, 100}[n]
				puts(t, s, e, nil)
				hasForGood(t, s, d, e)
				if text, err := textOf([]api.Entry{e}); err != nil || len(text)%api.Sector == 0 {
					ends++
				}
			}
		}
	}
	if ends == 0 {
		t.Error("none ends with a sector: sizes that tell little")
	}
}

func TestL2Refused(t *testing.T) {
	d := formatted(t)
	s := opens(t, d)
	a, b, c := small("a", 1), small("b", 1), small("c", 1)
	wrong := func(full bool) {
		t.Helper()
		puts(t, s, api.Entry{}, api.ErrBound)
		puts(t, s, small("A", 1), api.ErrShape)
		puts(t, s, small("abcdefghi", 1), api.ErrBound)
		puts(t, s, api.Entry{Root: "a"}, api.ErrMany)
		puts(t, s, great("a", 7, 0), api.ErrMany)
		puts(t, s, great("a", 1, 37), api.ErrMany)
		puts(t, s, small("a", 0), api.ErrBound)
		puts(t, s, api.Entry{Root: "x", Parts: []api.Stamped{{Name: "x\n", Stamp: 1}}}, api.ErrShape) // told ahead of ErrMany, if it is full
		puts(t, s, small("x", api.MaxStamp+1), api.ErrBound)
		puts(t, s, api.Entry{Root: "x", Parts: a.Parts, Patches: []api.Patch{{Part: 1}}}, api.ErrBound)
		if full {
			puts(t, s, small("x", 1), api.ErrMany)
			puts(t, s, great("d", 6, 36), api.ErrMany)
		}
		for _, root := range []string{"", "x", "A", "a ", " a", "aa", "a\n", "abcdefghi", "\xff", strings.Repeat("a", 5000)} {
			drops(t, s, root, api.ErrNone)
		}
	}
	wrong(false)
	hasForGood(t, s, d)
	for _, e := range []api.Entry{a, b, c} {
		puts(t, s, e, nil)
	}
	wrong(true)
	hasForGood(t, s, d, a, b, c)
	// Told ahead of the disk's errors, and without a step.
	d.Arm(0)
	wrong(true)
	if d.Down() {
		t.Error("what is refused took a step")
	}
	has(t, s, a, b, c)
	puts(t, s, small("a", 2), api.ErrDown)
	d.Restart(0)
	has(t, opens(t, d), a, b, c)
}

// TestL2DisksErrors: the disk's errors are told.
func TestL2DisksErrors(t *testing.T) {
	d := formatted(t)
	puts(t, opens(t, d), small("a", 1), nil)
	acts := map[string]func() error{
		"Put":    func() error { return opens(t, d).Put(small("b", 1)) },
		"Drop":   func() error { return opens(t, d).Drop("a") },
		"Format": func() error { return Format(d) },
	}
	for name, act := range acts {
		d.Arm(0)
		if err := act(); err != api.ErrDown {
			t.Errorf("%s: %v, want %v", name, err, api.ErrDown)
		}
		d.Restart(0)
		has(t, opens(t, d), small("a", 1))
	}
}

// TestZ1Down: what a shelf answers whose disk is down isn't said, but that it answers.
func TestZ1Down(t *testing.T) {
	d := formatted(t)
	s := opens(t, d)
	puts(t, s, small("a", 1), nil)
	d.Arm(0)
	_ = d.Flush()
	_, _ = s.Get("a")
	_ = s.Roots()
	_ = s.Put(small("b", 1))
	_ = s.Drop("a")
	d.Restart(0)
	has(t, opens(t, d), small("a", 1))
}

// TestZ2: what is handed in stays as it was, is not kept, and what stands behind it is not read.
func TestZ2(t *testing.T) {
	d := formatted(t)
	s := opens(t, d)
	e := great("r", 3, 5)
	parts, patches := append(slices.Clone(e.Parts), api.Stamped{Name: "A"}), append(slices.Clone(e.Patches), api.Patch{Part: -1})
	told := fmt.Sprint(parts, patches)
	given := api.Entry{Root: "r", Parts: parts[:3], Patches: patches[:5]}
	puts(t, s, given, nil)
	puts(t, s, small("a", 1), nil)
	drops(t, s, "a", nil)
	if got := fmt.Sprint(parts, patches); got != told {
		t.Errorf("what was handed in became %s", got)
	}
	parts[0].Name, patches[0].Word = "other", 77
	hasForGood(t, s, d, e)
	for range 2 { // what was told once is nothing to those who ask again
		got, ok := s.Get("r")
		if !ok || !equal(got, e) {
			t.Fatalf("Get: %v, %v", got, ok)
		}
		got.Parts[0].Name, got.Patches[0].Word = "other", 77
		roots := s.Roots()
		if !slices.Equal(roots, []string{"r"}) {
			t.Fatalf("Roots: %q", roots)
		}
		roots[0] = "other"
	}
}
