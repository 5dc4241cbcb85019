package files

import (
	"fmt"
	"slices"
	"strings"
	"testing"

	"marlinspike/api"
	"marlinspike/name"
)

// most: the names of as many files as there may be.
const most = "a b c d e f"

// filled: as many files as there may be; of the one that is written first the stamp is 1.
func filled(t *testing.T) *Files {
	t.Helper()
	f := New()
	for _, s := range strings.Fields(most) {
		write(t, f, s, "of "+s, nil)
	}
	return f
}

func write(t *testing.T, f *Files, s, text string, want error) {
	t.Helper()
	if err := f.Write(s, text); err != want {
		t.Errorf("Write(%q, %d bytes): %v, want %v", s, len(text), err, want)
	}
}

func remove(t *testing.T, f *Files, s string, want error) {
	t.Helper()
	if err := f.Remove(s); err != want {
		t.Errorf("Remove(%q): %v, want %v", s, err, want)
	}
}

// has: the file has that text and that stamp.
func has(t *testing.T, f *Files, s, text string, stamp int) {
	t.Helper()
	if got, n, err := f.Read(s); got != text || n != stamp || err != nil {
		t.Errorf("Read(%q): %.40q, %d, %v, want %.40q, %d", s, got, n, err, text, stamp)
	}
}

// hasNot: there is no such file, and nothing is told beside that.
func hasNot(t *testing.T, f *Files, s string) {
	t.Helper()
	if got, n, err := f.Read(s); got != "" || n != 0 || err != api.ErrNone {
		t.Errorf("Read(%q): %.40q, %d, %v, want %v", s, got, n, err, api.ErrNone)
	}
}

// lists: just these names, in that order.
func lists(t *testing.T, f *Files, want string) {
	t.Helper()
	if got := f.List(); !slices.Equal(got, strings.Fields(want)) {
		t.Errorf("List(): %q, want %q", got, want)
	}
}

func TestD1New(t *testing.T) {
	f := New()
	lists(t, f, "")
	for _, s := range []string{"a", "", "A"} {
		hasNot(t, f, s)
		remove(t, f, s, api.ErrNone)
	}
	other := New()
	write(t, other, "a", "x", nil)
	lists(t, f, "")
	write(t, f, "b", "y", nil)
	has(t, f, "b", "y", 1)
}

func TestD1Stamps(t *testing.T) {
	f := New()
	write(t, f, "libc", "one", nil)
	has(t, f, "libc", "one", 1)
	write(t, f, "app", "", nil)
	has(t, f, "app", "", 2)
	write(t, f, "libc", "three", nil)
	has(t, f, "libc", "three", 3)
	has(t, f, "app", "", 2)
	write(t, f, "app", "", nil) // also what is as it was is written
	has(t, f, "app", "", 4)
	remove(t, f, "app", nil)
	write(t, f, "app", "", nil) // the stamps of what was removed don't come again
	has(t, f, "app", "", 5)
	remove(t, f, "app", nil)
	remove(t, f, "libc", nil)
	write(t, f, "libc", "three", nil)
	has(t, f, "libc", "three", 6)
}

func TestD1Names(t *testing.T) {
	for _, c := range []struct {
		s    string
		want error
	}{
		{"", api.ErrBound},
		{"abcdefghi", api.ErrBound},
		{"A", api.ErrShape},
		{"0a", api.ErrShape},
		{"a\n", api.ErrShape},
		{"a b", api.ErrShape},
	} {
		f := New()
		write(t, f, c.s, "x", c.want)
		write(t, f, c.s, strings.Repeat("x", api.MaxText+1), c.want)
		hasNot(t, f, c.s)
		lists(t, f, "")
		full := filled(t)
		write(t, full, c.s, strings.Repeat("x", api.MaxText+1), c.want)
		lists(t, full, most)
	}
	f := New()
	write(t, f, "abcdefgh", "x", nil)
	has(t, f, "abcdefgh", "x", 1)
}

func TestD1MaxText(t *testing.T) {
	longest := strings.Repeat("\xff\x00\n", api.MaxText/3)
	f := New()
	write(t, f, "a", longest, nil)
	has(t, f, "a", longest, 1)
	for _, s := range []string{longest + "x", strings.Repeat("x", 100*api.MaxText)} {
		write(t, f, "a", s, api.ErrMany)
		write(t, f, "b", s, api.ErrMany)
		has(t, f, "a", longest, 1)
		hasNot(t, f, "b")
		write(t, filled(t), "g", s, api.ErrMany) // told ahead of ErrFull
	}
	write(t, f, "b", "", nil)
	has(t, f, "b", "", 2) // what was refused isn't counted
}

func TestD1MaxFiles(t *testing.T) {
	f := filled(t)
	write(t, f, "g", "x", api.ErrFull)
	write(t, f, "aa", "", api.ErrFull)
	hasNot(t, f, "g")
	lists(t, f, most)
	for i, s := range strings.Fields(most) {
		has(t, f, s, "of "+s, i+1)
	}
	for i, s := range strings.Fields(most) { // there are but five others
		write(t, f, s, "new", nil)
		has(t, f, s, "new", api.MaxFiles+i+1)
	}
	remove(t, f, "c", nil)
	write(t, f, "g", "x", nil)
	has(t, f, "g", "x", 2*api.MaxFiles+1)
	write(t, f, "c", "x", api.ErrFull)
	lists(t, f, "a b d e f g")
}

func TestD1MaxStamp(t *testing.T) {
	f := New()
	for n := 1; n < api.MaxStamp; n++ {
		if err := f.Write(string(rune('a'+n%3)), ""); err != nil {
			t.Fatalf("write %d: %v", n, err)
		}
	}
	write(t, f, "last", "x", nil)
	has(t, f, "last", "x", api.MaxStamp)
	write(t, f, "last", "y", api.ErrFull)
	write(t, f, "other", "y", api.ErrFull)
	write(t, f, "Last", "y", api.ErrShape)
	write(t, f, "last", strings.Repeat("x", api.MaxText+1), api.ErrMany)
	has(t, f, "last", "x", api.MaxStamp)
	hasNot(t, f, "other")
	lists(t, f, "a b c last")
	for _, s := range f.List() {
		remove(t, f, s, nil)
	}
	write(t, f, "last", "y", api.ErrFull)
	lists(t, f, "")
	write(t, New(), "last", "y", nil)
}

func TestD2Remove(t *testing.T) {
	f := filled(t)
	for _, s := range []string{"g", "", "A", "abcdefghi", "a ", "\x00"} {
		remove(t, f, s, api.ErrNone)
		hasNot(t, f, s)
	}
	lists(t, f, most)
	remove(t, f, "c", nil)
	hasNot(t, f, "c")
	remove(t, f, "c", api.ErrNone)
	lists(t, f, "a b d e f")
	has(t, f, "b", "of b", 2)
	has(t, f, "d", "of d", 4)
}

func TestD2List(t *testing.T) {
	const rising = "a a0 a_ aa b zzzzzzzz"
	names := strings.Fields(rising)
	for range len(names) {
		names = append(names[1:], names[0])
		f := New()
		for _, s := range names {
			write(t, f, s, "", nil)
		}
		for range 20 { // in whatever order a map is gone over
			lists(t, f, rising)
		}
	}
}

// line of a list that is looked through one by one: what files should be.
type line struct {
	name, text string
	stamp      int
}

type model struct {
	lines   []line
	written int
}

func (m *model) find(s string) int {
	return slices.IndexFunc(m.lines, func(l line) bool { return l.name == s })
}

func (m *model) write(s, text string) error {
	at := m.find(s)
	switch err := name.Check(s); {
	case err != nil:
		return err
	case len(text) > api.MaxText:
		return api.ErrMany
	case at < 0 && len(m.lines) == api.MaxFiles:
		return api.ErrFull
	case at >= 0:
		m.lines = slices.Delete(m.lines, at, at+1)
	}
	m.written++
	m.lines = append(m.lines, line{s, text, m.written})
	return nil
}

func (m *model) remove(s string) error {
	at := m.find(s)
	if at < 0 {
		return api.ErrNone
	}
	m.lines = slices.Delete(m.lines, at, at+1)
	return nil
}

func (m *model) names() string {
	var l []string
	for _, x := range m.lines {
		l = append(l, x.name)
	}
	slices.Sort(l)
	return strings.Join(l, " ")
}

// TestD1D2Acts: whatever is written and removed, the files are as the list is.
func TestD1D2Acts(t *testing.T) {
	names := []string{"a", "b", "c", "d", "e", "f", "g", "h", "", "A", "abcdefghi"}
	seed := uint32(4)
	draw := func(most int) int {
		seed = seed*1664525 + 1013904223
		return int(seed>>8) % most
	}
	for range 200 {
		f, m := New(), model{}
		for n := range 60 {
			s := names[draw(len(names))]
			text := fmt.Sprint(n, strings.Repeat("x", []int{0, 10, api.MaxText - 2, api.MaxText}[draw(4)]))
			if draw(3) > 0 {
				write(t, f, s, text, m.write(s, text))
			} else {
				remove(t, f, s, m.remove(s))
			}
			lists(t, f, m.names())
			for _, s := range names {
				if at := m.find(s); at < 0 {
					hasNot(t, f, s)
				} else {
					has(t, f, s, m.lines[at].text, m.lines[at].stamp)
				}
			}
		}
	}
}

// TestZ2: what List answers is the caller's.
func TestZ2(t *testing.T) {
	f := filled(t)
	one, two := f.List(), f.List()
	for i := range one[:cap(one)] {
		one[:cap(one)][i] = "other"
	}
	if !slices.Equal(two, strings.Fields(most)) {
		t.Error("two answers share memory")
	}
	lists(t, f, most)
	has(t, f, "a", "of a", 1)
}
