package name

import (
	"strings"
	"testing"

	"marlinspike/api"
)

func TestA1Check(t *testing.T) {
	for _, c := range []struct {
		s    string
		want error
	}{
		{"a", nil},
		{"z", nil},
		{"main", nil},
		{"a_0", nil},
		{"a9_z", nil},
		{"abcdefgh", nil},
		{"a_______", nil},
		{"", api.ErrBound},
		{"abcdefghi", api.ErrBound},
		{"ABCDEFGHI", api.ErrBound},
		{strings.Repeat("\x00", 5000), api.ErrBound},
		{"ääääa", api.ErrBound}, // bytes are counted, not letters
		{"A", api.ErrShape},
		{"0a", api.ErrShape},
		{"_a", api.ErrShape},
		{"x y", api.ErrShape},
		{"a-b", api.ErrShape},
		{"a\n", api.ErrShape},
		{"\x00", api.ErrShape},
		{"abcdefgH", api.ErrShape},
		{"ä", api.ErrShape},
	} {
		if got := Check(c.s); got != c.want {
			t.Errorf("Check(%q): %v, want %v", c.s, got, c.want)
		}
	}
}

// TestA1EveryByte: each byte at each place of a name.
func TestA1EveryByte(t *testing.T) {
	const letters, others = "abcdefghijklmnopqrstuvwxyz", "0123456789_"
	for n := 1; n <= api.MaxName; n++ {
		for at := range n {
			for b := range 256 {
				s := []byte(strings.Repeat("a", n))
				s[at] = byte(b)
				may := strings.IndexByte(letters, byte(b)) >= 0 || at > 0 && strings.IndexByte(others, byte(b)) >= 0
				var want error
				if !may {
					want = api.ErrShape
				}
				if got := Check(string(s)); got != want {
					t.Errorf("Check(%q): %v, want %v", s, got, want)
				}
			}
		}
	}
}

func TestA2Hash(t *testing.T) {
	for _, c := range []struct {
		s    string
		want uint32
	}{
		{"", 0},
		{"a", 97},
		{"\xff", 255},
		{"ab", 97*16 + 98},
		{"print", 7835732},
		{"exit", 0x0006cf04},
		{"printf", 0x077905a6},
		{"syscall", 0x0b09985c},
		{"\xff\xff\xff\xff\xff", 17 * 0xfffff},
		{"\xff\xff\xff\xff\xff\xff", 0xffffff}, // 0x10ffffef: the highest bits are reached
		{"\xff\xff\xff\xff\xff\xff\xff", 0xff},
	} {
		if got := Hash(c.s); got != c.want {
			t.Errorf("Hash(%q): %#x, want %#x", c.s, got, c.want)
		}
	}
}

// hashByBits: the same, by digits of 4 bits and numbers that don't wrap round.
func hashByBits(s string) uint32 {
	h := uint64(0)
	for _, b := range []byte(s) {
		h = (h*16 + uint64(b)) % (1 << 32)
		var digit [8]uint64
		for i := range digit {
			digit[i] = h / (1 << (4 * i)) % 16
		}
		digit[1] ^= digit[7]
		digit[7] = 0
		h = 0
		for i := range digit {
			h += digit[i] * (1 << (4 * i))
		}
	}
	return uint32(h)
}

func TestA2AnyBytes(t *testing.T) {
	seed := uint32(1)
	for n := range 300 {
		b := make([]byte, n)
		for i := range b {
			seed = seed*1664525 + 1013904223
			b[i] = byte(seed >> 24)
		}
		s := string(b)
		if got, want := Hash(s), hashByBits(s); got != want {
			t.Errorf("Hash(%q): %#x, want %#x", s, got, want)
		}
		if Hash(s)>>28 != 0 {
			t.Errorf("Hash(%q): one of its four highest bits is set", s)
		}
	}
}
