package entry

import (
	"fmt"
	"strings"
	"testing"

	"marlinspike/api"
)

const appLine = "app 2 4 app 2 0 libc 1 16 0 0 17 0 1 0 0 2 15 1 0 21\n"

// writtenIsRead: it has a text, and that is read as it.
func writtenIsRead(t *testing.T, e api.Entry) {
	t.Helper()
	s, err := Text(e)
	if err != nil {
		t.Fatalf("Text(%v): %v", e, err)
	}
	if got, err := Parse(s); err != nil || !equal(got, e) {
		t.Errorf("Parse(%q): %v, %v, want %v", s, got, err, e)
	}
}

// parsesNot: ErrText, and no entry.
func parsesNot(t *testing.T, s string) {
	t.Helper()
	if e, err := Parse(s); err != api.ErrText || !equal(e, api.Entry{}) {
		t.Errorf("Parse(%.80q): %v, %v", s, e, err)
	}
}

func TestI4Text(t *testing.T) {
	for _, c := range []struct {
		e    api.Entry
		want string
	}{
		{appEntry(), appLine},
		{lists(1, 0), "root 1 0 part 1 0\n"},
		{lists(2, 1), "root 2 1 part 1 0 part 1 0 0 0 0\n"},
		{api.Entry{Root: "a", Parts: []api.Stamped{{Name: "b_2", Stamp: 1000000, Base: 240}}, Patches: []api.Patch{{At: 39, Word: -2147483648}, {Word: 2147483647}}},
			"a 1 2 b_2 1000000 240 0 39 -2147483648 0 0 2147483647\n"},
		{longest(), "abcdefgh 6 36" + strings.Repeat(" z_345678 1000000 240", 6) + strings.Repeat(" 5 39 -2147483648", 36) + "\n"},
		{lists(6, 36), "root 6 36" + strings.Repeat(" part 1 0", 6) + strings.Repeat(" 0 0 0", 36) + "\n"},
	} {
		if got, err := Text(c.e); got != c.want || err != nil {
			t.Errorf("Text(%v): %q, %v, want %q", c.e, got, err, c.want)
		}
		if got, err := Parse(c.want); err != nil || !equal(got, c.e) {
			t.Errorf("Parse(%q): %v, %v, want %v", c.want, got, err, c.e)
		}
	}
}

func TestI4Wrong(t *testing.T) {
	for _, s := range []string{
		"", " ", "\n", "  \n", "\x00", "\xff\n", "a", "a\n", "a 1\n", "a 1 0\n", "a 1 0 \n", "a 1 0 b\n", "a 1 0 b 1\n",
		"a 1 0 b 1 0", "a 1 0 b 1 0\n\n", "\na 1 0 b 1 0\n", "a 1 0 b 1 0 \n", " a 1 0 b 1 0\n", "a  1 0 b 1 0\n", "a 1 0 b 1  0\n",
		"a\t1 0 b 1 0\n", "a 1 0 b 1 0\r\n", "a 1 0\nb 1 0\n", "a 1 0 b 1 0\x00\n", "a 1 0 b 1 0\nx", "a 1 0 b 1 0\n ",
		"a 0 0\n", "a 0 1 0 0 0\n", "a 2 0 b 1 0\n", "a 1 1 b 1 0\n", "a 1 0 b 1 0 0 0 0\n", "a 1 1 b 1 0 0 0\n", "a 1 1 b 1 0 0 0 0 0\n",
		"a -1 0\n", "a -1 2 b 1 0\n", "a 2 -1 b 1 0\n", "a 7 0" + strings.Repeat(" b 1 0", 7) + "\n", "a 1 37 b 1 0" + strings.Repeat(" 0 0 0", 37) + "\n",
		"a 01 0 b 1 0\n", "a +1 0 b 1 0\n", "a 1 00 b 1 0\n", "a 1 -0 b 1 0\n", "a x 0 b 1 0\n", "a 1 x b 1 0\n", "a 1  b 1 0\n", "a 1. 0 b 1 0\n", "a 1_ 0 b 1 0\n",
		" 1 0 b 1 0\n", "A 1 0 b 1 0\n", "abcdefghi 1 0 b 1 0\n", "9 1 0 b 1 0\n",
		"a 1 0  1 0\n", "a 1 0 B 1 0\n", "a 1 0 abcdefghi 1 0\n", "a 1 0 1 b 0\n",
		"a 1 0 b 0 0\n", "a 1 0 b -1 0\n", "a 1 0 b 1000001 0\n", "a 1 0 b 01 0\n", "a 1 0 b +1 0\n", "a 1 0 b x 0\n", "a 1 0 b  0\n", "a 1 0 b 1e3 0\n", "a 1 0 b 0x1 0\n",
		"a 1 0 b 1 1\n", "a 1 0 b 1 -16\n", "a 1 0 b 1 256\n", "a 1 0 b 1 016\n", "a 1 0 b 1 -0\n", "a 1 0 b 1 x\n", "a 1 0 b 1 00\n",
		"a 1 1 b 1 0 1 0 0\n", "a 1 1 b 1 0 -1 0 0\n", "a 1 1 b 1 0 x 0 0\n", "a 1 1 b 1 0 00 0 0\n",
		"a 1 1 b 1 0 0 40 0\n", "a 1 1 b 1 0 0 -1 0\n", "a 1 1 b 1 0 0 01 0\n", "a 1 1 b 1 0 0  0\n",
		"a 1 1 b 1 0 0 0 2147483648\n", "a 1 1 b 1 0 0 0 -2147483649\n", "a 1 1 b 1 0 0 0 -0\n", "a 1 1 b 1 0 0 0 +5\n", "a 1 1 b 1 0 0 0 \n", "a 1 1 b 1 0 0 0 05\n", "a 1 1 b 1 0 0 0 --5\n",
		"a 1 1 b 1 0 0 0 99999999999999999999999999\n", "a 1 1 b 1 0 0 0 -99999999999999999999999999\n",
		"a 1 1 0 0 0 b 1 0\n", // patches ahead of parts
	} {
		parsesNot(t, s)
	}
}

// TestI4Counts: whatever is told of how many there are, nothing is made of that alone.
func TestI4Counts(t *testing.T) {
	for _, n := range strings.Fields("2 7 1000000000 2147483647 4294967297 3074457345618258603 6148914691236517206 9223372036854775807 9223372036854775808 -1 -9223372036854775808 99999999999999999999999") {
		for _, m := range []string{"0", "1", n} {
			parsesNot(t, "a "+n+" "+m+"\n")
			parsesNot(t, "a "+m+" "+n+"\n")
			parsesNot(t, "a "+n+" "+m+" b 1 0\n")
			parsesNot(t, "a "+m+" "+n+" b 1 0\n")
		}
	}
	for parts := range 9 {
		for patches := range 40 {
			for words := range 4 {
				s := fmt.Sprint("a ", parts, " ", patches, strings.Repeat(" b 1 0", parts), strings.Repeat(" 0 0 0", patches), strings.Repeat(" 0", words), "\n")
				if parts >= 1 && parts <= 6 && patches <= 36 && words == 0 {
					if e, err := Parse(s); err != nil || len(e.Parts) != parts || len(e.Patches) != patches {
						t.Errorf("Parse(%q): %v, %v", s, e, err)
					}
				} else {
					parsesNot(t, s)
				}
			}
		}
	}
}

// TestI4Long: texts of any length are refused, also such as begin like an entry's.
func TestI4Long(t *testing.T) {
	for _, s := range []string{"a", " ", "\n", "a ", "0", "a 1 0 b 1 0\n", " 0 0 0"} {
		long := strings.Repeat(s, 1<<20)
		parsesNot(t, long)
		parsesNot(t, "a 6 36"+long)
		parsesNot(t, strings.TrimSuffix(appLine, "\n")+long)
		parsesNot(t, appLine+long)
	}
}

// TestI4Changed: a text that something is put into, or taken from, or changed in, is refused, or is just another entry's.
func TestI4Changed(t *testing.T) {
	same := 0
	for at := range len(appLine) + 1 {
		for _, with := range []string{"", " ", "\n", "0", "1", "9", "-", "+", "a", "_", "A", "\x00", " 0", "0 "} {
			for cut := range min(3, len(appLine)-at+1) {
				s := appLine[:at] + with + appLine[at+cut:]
				e, err := Parse(s)
				if err != nil {
					parsesNot(t, s)
				} else if u, err := Text(e); u != s || err != nil {
					t.Errorf("Parse(%q): %v, whose text is %q, %v", s, e, u, err)
				} else {
					same++
				}
			}
		}
	}
	if same < 50 {
		t.Errorf("%d of them are read: too few to tell much", same)
	}
}

// TestW6WrittenIsRead: entries of all sizes, written and read.
func TestW6WrittenIsRead(t *testing.T) {
	draw := dice(6)
	word := func() int { return []int{0, -1, api.MaxWord, -api.MaxWord - 1, draw(1000), -draw(1 << 20)}[draw(6)] }
	for range 2000 {
		e := api.Entry{Root: fmt.Sprint("r", draw(1000))}
		for range 1 + draw(api.MaxFiles) {
			e.Parts = append(e.Parts, api.Stamped{Name: fmt.Sprint("p_", draw(1000)), Stamp: 1 + draw(api.MaxStamp), Base: api.Page * draw(api.Window/api.Page)})
		}
		for range draw(api.MaxFiles*api.MaxTies + 1) {
			e.Patches = append(e.Patches, api.Patch{Part: draw(len(e.Parts)), At: draw(api.MaxWords), Word: word()})
		}
		if err := Check(e); err != nil {
			t.Fatalf("Check(%v): %v", e, err)
		}
		writtenIsRead(t, e)
	}
}
