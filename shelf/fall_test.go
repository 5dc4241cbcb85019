package shelf

import (
	"fmt"
	"math"
	"slices"
	"testing"

	"marlinspike/api"
	"marlinspike/disk"
)

// act: something that is done to a shelf, and what its entries are behind it.
type act struct {
	name   string
	do     func(d *disk.Disk) error
	behind func(l []api.Entry) []api.Entry
}

func putting(t *testing.T, e api.Entry) act {
	return act{
		"Put " + e.Root,
		func(d *disk.Disk) error { return opens(t, d).Put(e) },
		func(l []api.Entry) []api.Entry {
			l = slices.Clone(l)
			for i := range l {
				if l[i].Root == e.Root {
					l[i] = e
					return l
				}
			}
			return append(l, e)
		},
	}
}

func dropping(t *testing.T, root string) act {
	return act{
		"Drop " + root,
		func(d *disk.Disk) error { return opens(t, d).Drop(root) },
		func(l []api.Entry) []api.Entry {
			return slices.DeleteFunc(slices.Clone(l), func(e api.Entry) bool { return e.Root == root })
		},
	}
}

func formatting() act {
	return act{"Format", Format, func([]api.Entry) []api.Entry { return nil }}
}

// copied: another disk, that has the same sectors.
func copied(t *testing.T, d *disk.Disk) *disk.Disk {
	t.Helper()
	x := on(t, d.Sectors())
	for at := range d.Sectors() {
		s, err := d.Read(at)
		if err != nil {
			t.Fatal(err)
		}
		if err := x.Write(at, s); err != nil {
			t.Fatal(err)
		}
	}
	if err := x.Flush(); err != nil {
		t.Fatal(err)
	}
	return x
}

// keeps: what may be kept of so many Writes: none, all, just the last one, all but that one, some.
func keeps(n int, draw func(int) int) []uint64 {
	last := uint64(1) << (max(n-1, 0) % 64)
	l := []uint64{0, math.MaxUint64, last, ^last, last >> 1, ^(last >> 1)}
	for range 4 {
		l = append(l, uint64(draw(1<<24))<<40^uint64(draw(1<<24))<<20^uint64(draw(1<<24)))
	}
	return l
}

// either: the entries that there are, which must be these or those.
func either(t *testing.T, d *disk.Disk, what string, ahead, behind []api.Entry) []api.Entry {
	t.Helper()
	got := entriesOf(t, opens(t, d))
	if !slices.EqualFunc(got, ahead, equal) && !slices.EqualFunc(got, behind, equal) {
		t.Fatalf("%s: there are %v, ahead there were %v, behind it there are %v", what, got, ahead, behind)
	}
	return got
}

// TestL3: each act falls at each of its steps, with this and that kept.
func TestL3(t *testing.T) {
	draw := dice(21)
	d, l := formatted(t), []api.Entry(nil)
	aheads, behinds := 0, 0
	for _, a := range []act{
		formatting(), putting(t, great("b", 6, 36)), putting(t, small("a", 1)), putting(t, great("c", 6, 36)),
		putting(t, great("b", 2, 20)), putting(t, great("c", 6, 35)), putting(t, great("a", 6, 36)), dropping(t, "b"),
		putting(t, great("b", 1, 1)), dropping(t, "a"), dropping(t, "b"), dropping(t, "c"), putting(t, small("d", 7)), formatting(), formatting(),
	} {
		behind := a.behind(l)
		steps := stepsOf(t, d, a)
		for n := range steps {
			for _, keep := range keeps(n, draw) {
				what := fmt.Sprintf("%s, which fell at step %d, with %x kept", a.name, n, keep)
				x := copied(t, d)
				x.Arm(n)
				if err := a.do(x); err != api.ErrDown || !x.Down() {
					t.Fatalf("%s: %v", what, err)
				}
				x.Restart(keep)
				got := either(t, x, what, l, behind)
				if slices.EqualFunc(got, l, equal) {
					aheads++
				} else {
					behinds++
				}
				// That is for good, and it goes on.
				x.Restart(0)
				has(t, opens(t, x), got...)
				if err := a.do(x); err == nil {
					has(t, opens(t, x), behind...)
				} else if err != api.ErrNone {
					t.Fatalf("%s: %v", what, err)
				}
			}
		}
		if err := a.do(d); err != nil {
			t.Fatalf("%s: %v", a.name, err)
		}
		l = behind
		hasForGood(t, opens(t, d), d, l...)
	}
	if aheads < 500 || behinds < 20 {
		t.Errorf("%d falls leave it as it was, %d as it is: falls that tell little", aheads, behinds)
	}
}

// stepsOf an act: how many it takes.
func stepsOf(t *testing.T, d *disk.Disk, a act) int {
	t.Helper()
	for n := range 1000 {
		x := copied(t, d)
		x.Arm(n)
		if a.do(x) == nil {
			return n
		}
	}
	t.Fatalf("%s never ends", a.name)
	return 0
}

// TestL3New: also the first Format may fall: there is no shelf, as ahead of it, or an empty one.
func TestL3New(t *testing.T) {
	steps := stepsOf(t, on(t, 112), formatting())
	for n := range steps {
		for _, keep := range keeps(n, dice(22)) {
			d := on(t, 112)
			d.Arm(n)
			formats(t, d, api.ErrDown)
			d.Restart(keep)
			if s, err := Open(d); err == nil {
				has(t, s)
			} else if err != api.ErrText || s != nil {
				t.Errorf("Open: %v, %v", s, err)
			}
			formats(t, d, nil)
			hasForGood(t, opens(t, d), d)
		}
	}
}

// dice: numbers that look drawn, the same each time.
func dice(seed uint32) func(most int) int {
	return func(most int) int {
		seed = seed*1664525 + 1013904223
		return int(seed>>8) % most
	}
}

// drawnAct: most often one that isn't refused.
func drawnAct(t *testing.T, draw func(int) int) act {
	root := []string{"a", "b", "c", "d"}[draw(4)]
	switch draw(12) {
	case 0, 1, 2:
		return dropping(t, root)
	case 3:
		return formatting()
	}
	return putting(t, great(root, 1+draw(6), draw(37)))
}

// TestW5: a fall takes nothing, whatever was done, and however often it falls.
func TestW5(t *testing.T) {
	draw, falls := dice(23), 0
	for range 60 {
		d, l := formatted(t), []api.Entry(nil)
		for range 60 {
			a := drawnAct(t, draw)
			behind := a.behind(l)
			switch draw(6) {
			case 0, 1, 2:
				d.Arm(draw(40))
			case 3:
				d.Restart(0) // without a fall: all is kept
			default:
				d.Arm(-1)
			}
			switch err := a.do(d); err {
			case nil:
				l = behind
			case api.ErrDown:
				falls++
				d.Restart(keeps(draw(40), draw)[draw(10)])
				l = either(t, d, a.name, l, behind)
			case api.ErrNone, api.ErrMany:
				if err == api.ErrNone && len(behind) != len(l) || err == api.ErrMany && len(behind) <= api.MaxRoots {
					t.Fatalf("%s: %v, of %v", a.name, err, l)
				}
			default:
				t.Fatalf("%s: %v", a.name, err)
			}
			has(t, opens(t, d), l...)
		}
	}
	if falls < 300 {
		t.Errorf("%d falls: a draw that tells little", falls)
	}
}
