package disk

import (
	"fmt"
	"math"
	"strings"
	"testing"

	"marlinspike/api"
)

// made: a disk of so many sectors.
func made(t *testing.T, n int) *Disk {
	t.Helper()
	d, err := New(n)
	if err != nil || d == nil {
		t.Fatalf("New(%d): %v", n, err)
	}
	return d
}

// whole: the bytes of a sector that these were written to.
func whole(s string) string { return s + strings.Repeat("\x00", api.Sector-len(s)) }

// reads: just these bytes, noughts behind them.
func reads(t *testing.T, d *Disk, at int, want string) {
	t.Helper()
	if got, err := d.Read(at); err != nil || got != whole(want) {
		t.Errorf("Read(%d): %q, %v, want %q", at, got, err, want)
	}
}

// readsNot: that error, and nothing beside it.
func readsNot(t *testing.T, d *Disk, at int, want error) {
	t.Helper()
	if got, err := d.Read(at); err != want || got != "" {
		t.Errorf("Read(%d): %q, %v, want %v", at, got, err, want)
	}
}

// writes: with that error, or none.
func writes(t *testing.T, d *Disk, at int, data string, want error) {
	t.Helper()
	if err := d.Write(at, data); err != want {
		t.Errorf("Write(%d, %q): %v, want %v", at, data, err, want)
	}
}

func flushes(t *testing.T, d *Disk, want error) {
	t.Helper()
	if err := d.Flush(); err != want {
		t.Errorf("Flush: %v, want %v", err, want)
	}
}

func isDown(t *testing.T, d *Disk, want bool) {
	t.Helper()
	if got := d.Down(); got != want {
		t.Errorf("Down: %v", got)
	}
}

func TestK1New(t *testing.T) {
	for _, n := range []int{1, 2, 64, 119, 120} {
		d := made(t, n)
		if got := d.Sectors(); got != n {
			t.Errorf("Sectors of %d: %d", n, got)
		}
		for at := range n {
			reads(t, d, at, "")
		}
		isDown(t, d, false)
	}
	for _, n := range []int{math.MinInt, -120, -1, 0, 121, math.MaxInt} {
		if d, err := New(n); err != api.ErrBound || d != nil {
			t.Errorf("New(%d): %v, %v", n, d, err)
		}
	}
}

func TestK1Write(t *testing.T) {
	d := made(t, 3)
	full := strings.Repeat("f", 63) + "g"
	for _, data := range []string{"a", full, "shorter", "", "\x00\x01\xff\n", "än\x80", full, strings.Repeat("\x00", 64), strings.Repeat("\xff", 63)} {
		writes(t, d, 1, data, nil)
		reads(t, d, 1, data)
		reads(t, d, 0, "")
		reads(t, d, 2, "")
	}
	writes(t, d, 0, "first", nil)
	writes(t, d, 2, "last", nil)
	reads(t, d, 0, "first")
	reads(t, d, 1, strings.Repeat("\xff", 63))
	reads(t, d, 2, "last")
}

func TestK1Bounds(t *testing.T) {
	d := made(t, 3)
	writes(t, d, 2, "last", nil)
	for _, at := range []int{math.MinInt, -3, -1, 3, 4, 120, math.MaxInt} {
		readsNot(t, d, at, api.ErrBound)
		writes(t, d, at, "x", api.ErrBound)
	}
	for _, n := range []int{65, 66, 128, 10000} {
		writes(t, d, 2, strings.Repeat("x", n), api.ErrBound)
		writes(t, d, -1, strings.Repeat("x", n), api.ErrBound)
	}
	reads(t, d, 0, "")
	reads(t, d, 1, "")
	reads(t, d, 2, "last")
}

// TestK1First: to Read a disk that is down is told first, to Write what is wrong with it.
func TestK1First(t *testing.T) {
	d := made(t, 2)
	d.Arm(0)
	writes(t, d, 2, "x", api.ErrBound)
	writes(t, d, 0, strings.Repeat("x", 65), api.ErrBound)
	isDown(t, d, false) // that was no step
	writes(t, d, 0, "x", api.ErrDown)
	isDown(t, d, true)
	for _, at := range []int{-1, 2, 0, 1} {
		readsNot(t, d, at, api.ErrDown)
	}
	writes(t, d, 2, "x", api.ErrBound)
	writes(t, d, -1, "x", api.ErrBound)
	writes(t, d, 0, strings.Repeat("x", 65), api.ErrBound)
	writes(t, d, 1, "x", api.ErrDown)
	flushes(t, d, api.ErrDown)
	if got := d.Sectors(); got != 2 {
		t.Errorf("Sectors: %d", got)
	}
}

func TestK2Steps(t *testing.T) {
	for n := range 6 {
		d := made(t, 2)
		d.Arm(n)
		for i := range n {
			readsNot(t, d, 2, api.ErrBound) // no step
			writes(t, d, 2, "x", api.ErrBound)
			if i%2 == 0 {
				writes(t, d, 0, fmt.Sprint(i), nil)
			} else {
				flushes(t, d, nil)
			}
			isDown(t, d, false)
		}
		if n%2 == 0 {
			flushes(t, d, api.ErrDown)
		} else {
			writes(t, d, 1, "x", api.ErrDown)
		}
		isDown(t, d, true)
		flushes(t, d, api.ErrDown)
		writes(t, d, 0, "x", api.ErrDown)
		readsNot(t, d, 0, api.ErrDown)
		d.Restart(math.MaxUint64)
		reads(t, d, 0, []string{"", "0", "0", "2", "2", "4"}[n])
		reads(t, d, 1, "")
	}
}

func TestK2Arm(t *testing.T) {
	d := made(t, 1)
	for _, n := range []int{-1, -2, math.MinInt} { // it isn't armed any more
		d.Arm(1)
		d.Arm(n)
		for range 200 {
			writes(t, d, 0, "x", nil)
			flushes(t, d, nil)
		}
	}
	d.Arm(2)
	flushes(t, d, nil)
	d.Arm(2) // anew, not behind the first
	flushes(t, d, nil)
	flushes(t, d, nil)
	isDown(t, d, false)
	flushes(t, d, api.ErrDown)
	isDown(t, d, true)
	for _, n := range []int{5, 0, -1, math.MaxInt} { // that doesn't get it up
		d.Arm(n)
		isDown(t, d, true)
		flushes(t, d, api.ErrDown)
		writes(t, d, 0, "x", api.ErrDown)
		readsNot(t, d, 0, api.ErrDown)
	}
	d.Restart(0)
	d.Arm(math.MaxInt)
	for range 200 {
		flushes(t, d, nil)
	}
	d.Arm(0)
	isDown(t, d, false) // not until the step
	reads(t, d, 0, "x")
}

// TestK2Flush: what was written ahead of it isn't lost.
func TestK2Flush(t *testing.T) {
	d := made(t, 3)
	writes(t, d, 0, "old", nil)
	writes(t, d, 0, "new", nil)
	writes(t, d, 1, "one", nil)
	flushes(t, d, nil)
	writes(t, d, 1, "lost", nil)
	writes(t, d, 2, "lost", nil)
	d.Restart(0)
	reads(t, d, 0, "new")
	reads(t, d, 1, "one")
	reads(t, d, 2, "")
	// However many there are.
	all := made(t, 120)
	for at := range 120 {
		writes(t, all, at, fmt.Sprint(at), nil)
	}
	flushes(t, all, nil)
	all.Restart(0)
	for at := range 120 {
		reads(t, all, at, fmt.Sprint(at))
	}
	// One that falls keeps nothing.
	writes(t, d, 2, "two", nil)
	d.Arm(0)
	flushes(t, d, api.ErrDown)
	d.Restart(0)
	reads(t, d, 2, "")
}

func TestK3Restart(t *testing.T) {
	for keep := range uint64(1 << 5) {
		d := made(t, 4)
		writes(t, d, 3, "kept", nil)
		flushes(t, d, nil)
		want := []string{"", "", "", "kept"}
		for i, at := range []int{0, 1, 0, 3, 0} {
			data := fmt.Sprint("data", i)
			writes(t, d, at, data, nil)
			reads(t, d, at, data)
			if keep&(1<<i) != 0 {
				want[at] = data
			}
		}
		d.Restart(keep)
		for at, data := range want {
			reads(t, d, at, data)
		}
		d.Restart(0) // what was kept, is
		for at, data := range want {
			reads(t, d, at, data)
		}
		d.Restart(math.MaxUint64) // what was lost, is
		for at, data := range want {
			reads(t, d, at, data)
		}
	}
}

// TestK3Modulo: the number of a Write, modulo 64.
func TestK3Modulo(t *testing.T) {
	for _, keep := range []uint64{0, 1, 2, 1 << 63, 1<<63 | 1, 1 << 31, 1 << 32, 0x0123456789abcdef, math.MaxUint64} {
		d := made(t, 120)
		var want [120]string
		for i := range 200 {
			at, data := i%120, fmt.Sprint("data", i)
			writes(t, d, at, data, nil)
			if keep>>(i%64)&1 == 1 {
				want[at] = data
			}
		}
		d.Restart(keep)
		for at, data := range want {
			reads(t, d, at, data)
		}
	}
	d := made(t, 1) // one sector: the last one that is kept, not that of the highest bit
	for i := range 66 {
		writes(t, d, 0, fmt.Sprint(i), nil)
	}
	d.Restart(1<<63 | 1)
	reads(t, d, 0, "64")
}

// TestK3Numbers: they begin anew behind a Flush, and behind a Restart, and what is refused has none.
func TestK3Numbers(t *testing.T) {
	d := made(t, 3)
	last := func(mark string) {
		t.Helper()
		writes(t, d, 3, "x", api.ErrBound)
		writes(t, d, 0, mark+"0", nil)
		writes(t, d, 1, strings.Repeat("x", 65), api.ErrBound)
		writes(t, d, 1, mark+"1", nil)
		d.Arm(0)
		writes(t, d, 2, "x", api.ErrDown)
	}
	writes(t, d, 0, "a", nil)
	flushes(t, d, nil)
	last("flush")
	d.Restart(1)
	reads(t, d, 0, "flush0")
	reads(t, d, 1, "")
	last("restart")
	d.Restart(2)
	reads(t, d, 0, "flush0")
	reads(t, d, 1, "restart1")
	// A Flush that falls is no beginning.
	writes(t, d, 0, "zero", nil)
	d.Arm(0)
	flushes(t, d, api.ErrDown)
	d.Arm(-1)
	writes(t, d, 1, "no", api.ErrDown)
	d.Restart(1)
	reads(t, d, 0, "zero")
	reads(t, d, 1, "restart1")
}

// TestK3Up: it isn't down, and not armed, also if it wasn't down.
func TestK3Up(t *testing.T) {
	d := made(t, 1)
	d.Arm(0)
	flushes(t, d, api.ErrDown)
	for range 2 {
		d.Restart(0)
		isDown(t, d, false)
		for range 100 {
			flushes(t, d, nil)
		}
		d.Arm(3)
	}
	writes(t, d, 0, "lost", nil)
	d.Restart(^uint64(1))
	reads(t, d, 0, "")
	for range 100 {
		flushes(t, d, nil)
	}
}

// dice: numbers that look drawn, the same each time.
func dice(seed uint32) func(most int) int {
	return func(most int) int {
		seed = seed*1664525 + 1013904223
		return int(seed>>8) % most
	}
}

// model of a disk: all that was written since the last Flush, one by one.
type model struct {
	kept []string
	late []struct {
		at   int
		data string
	}
	left int
	down bool
}

func (m *model) read(at int) (string, error) {
	if m.down {
		return "", api.ErrDown
	}
	if at < 0 || at >= len(m.kept) {
		return "", api.ErrBound
	}
	data := m.kept[at]
	for _, w := range m.late {
		if w.at == at {
			data = w.data
		}
	}
	return whole(data), nil
}

func (m *model) step() error {
	if m.down || m.left == 0 {
		m.down = true
		return api.ErrDown
	}
	m.left--
	return nil
}

func (m *model) write(at int, data string) error {
	if at < 0 || at >= len(m.kept) || len(data) > 64 {
		return api.ErrBound
	}
	if err := m.step(); err != nil {
		return err
	}
	m.late = append(m.late, struct {
		at   int
		data string
	}{at, data})
	return nil
}

func (m *model) restart(keep uint64) {
	for i, w := range m.late {
		if keep>>(i%64)%2 == 1 {
			m.kept[w.at] = w.data
		}
	}
	m.late = nil
}

func (m *model) flush() error {
	if err := m.step(); err != nil {
		return err
	}
	m.restart(math.MaxUint64)
	return nil
}

// TestModel: whatever is done, a disk is as its words say.
func TestModel(t *testing.T) {
	draw := dice(11)
	falls := 0
	for range 150 {
		n := 1 + draw(5)
		d, m := made(t, n), &model{kept: make([]string, n), left: -1}
		for range 300 {
			at, data := draw(n+2)-1, strings.Repeat(string(rune('a'+draw(26))), []int{0, 1, 9, 63, 64, 65}[draw(6)])
			var got, want error
			switch draw(100) {
			case 0:
				keep := uint64(draw(1<<24))<<40 ^ uint64(draw(1<<24))<<20 ^ uint64(draw(1<<24))
				d.Restart(keep)
				m.restart(keep)
				m.down, m.left = false, -1
			case 1:
				left := draw(200) - 20
				d.Arm(left)
				m.left = left
			case 2, 3:
				got, want = d.Flush(), m.flush()
			default:
				got, want = d.Write(at, data), m.write(at, data)
			}
			if got != want || d.Down() != m.down {
				t.Fatalf("%v, want %v; Down: %v, want %v", got, want, d.Down(), m.down)
			}
			if m.down {
				falls++
			}
			s, err := d.Read(at)
			if want, e := m.read(at); s != want || err != e {
				t.Fatalf("Read(%d): %q, %v, want %q, %v", at, s, err, want, e)
			}
		}
	}
	if falls < 500 {
		t.Errorf("%d falls: a draw that tells little", falls)
	}
}

// TestZ2: no two disks have anything in common.
func TestZ2(t *testing.T) {
	a, b := made(t, 2), made(t, 2)
	writes(t, a, 0, "a", nil)
	writes(t, b, 1, "b", nil)
	a.Arm(0)
	flushes(t, a, api.ErrDown)
	isDown(t, b, false)
	reads(t, b, 0, "")
	b.Restart(1)
	reads(t, b, 1, "b")
	isDown(t, a, true)
	a.Restart(0)
	reads(t, a, 0, "")
	reads(t, a, 1, "")
}

// TestNoMore: what nobody can see any more isn't kept, however often is written without a Flush.
func TestNoMore(t *testing.T) {
	d := made(t, 2)
	for i := range 5000 {
		writes(t, d, i%2, fmt.Sprint(i), nil)
	}
	for at := range 2 {
		if n := len(d.sectors[at].late); n > bits {
			t.Errorf("%d Writes of sector %d are kept", n, at)
		}
	}
	reads(t, d, 1, "4999")
	d.Restart(1 << (4990 % 64))
	reads(t, d, 0, "4990")
}
