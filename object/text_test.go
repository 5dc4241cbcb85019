package object

import (
	"fmt"
	"slices"
	"strings"
	"testing"

	"marlinspike/api"
)

const plainText = `need libc
need libm
word 11
word -22
word 0
word 33
symbol main 0
weak symbol hook 3
base 0 -5
whole 1 0 print
near 2 7 print
weak whole 3 1 gone
`

func equal(a, b api.Object) bool {
	return slices.Equal(a.Needs, b.Needs) && slices.Equal(a.Words, b.Words) &&
		slices.Equal(a.Symbols, b.Symbols) && slices.Equal(a.Ties, b.Ties)
}

func TestB2Text(t *testing.T) {
	for _, c := range []struct {
		o    api.Object
		want string
	}{
		{plain(), plainText},
		{least(), "word 0\n"},
		{api.Object{Words: []int{-api.MaxWord - 1, api.MaxWord}}, "word -2147483648\nword 2147483647\n"},
		{api.Object{Words: []int{1}, Ties: []api.Tie{{Kind: api.Near, Name: "a_1", Weak: true}}}, "word 1\nweak near 0 0 a_1\n"},
	} {
		if got, err := Text(c.o); got != c.want || err != nil {
			t.Errorf("Text(%v): %q, %v, want %q", c.o, got, err, c.want)
		}
	}
}

// TestB2Longest: the longest object has a text, and that is read.
func TestB2Longest(t *testing.T) {
	s, err := Text(full())
	if err != nil || len(s) != 4*14+40*17+8*24+6*35 {
		t.Fatalf("Text: %d bytes, %v", len(s), err)
	}
	if o, err := Parse(s); err != nil || !equal(o, full()) {
		t.Errorf("Parse: %v, %v", o, err)
	}
}

func TestB3Parse(t *testing.T) {
	if o, err := Parse(plainText); err != nil || !equal(o, plain()) {
		t.Errorf("Parse: %v, %v", o, err)
	}
	// Names may be words of the lines.
	s := "need weak\nneed need\nword 1\nsymbol weak 0\nweak symbol symbol 0\nweak near 0 0 base\n"
	want := api.Object{Needs: []string{"weak", "need"}, Words: []int{1},
		Symbols: []api.Symbol{{Name: "weak"}, {Name: "symbol", Weak: true}},
		Ties:    []api.Tie{{Kind: api.Near, Name: "base", Weak: true}}}
	if o, err := Parse(s); err != nil || !equal(o, want) {
		t.Errorf("Parse(%q): %v, %v, want %v", s, o, err, want)
	}
}

func TestB3Many(t *testing.T) {
	for _, s := range []string{
		strings.Repeat("\n", api.MaxText+1),
		strings.Repeat("x", api.MaxText+1),
		strings.Repeat("word 1\n", 200),
		plainText + strings.Repeat("z", 5*api.MaxText),
	} {
		refuse(t, s, api.ErrMany)
	}
	refuse(t, strings.Repeat("\n", api.MaxText), api.ErrText)
	refuse(t, strings.Repeat("word 12345\n", 200)[:api.MaxText], api.ErrText)
}

func TestB3Wrong(t *testing.T) {
	for _, s := range []string{
		"", "\n", " ", "weak", "weak ", "weak \n", "x\n", "\x00", "\xff\n",
		"word 1", "word 1\n\n", "\nword 1\n", "word 1\r\n", "word 1\n ", "word 1\nx\n",
		"word  1\n", " word 1\n", "word 1 \n", "word\t1\n", "word 1 2\n", "word\n", "word \n", "Word 1\n", "words 1\n",
		"word 01\n", "word +1\n", "word -0\n", "word 00\n", "word --1\n", "word -\n", "word 1_0\n", "word 0x1\n", "word 1.0\n", "word a\n",
		"word 2147483648\n", "word -2147483649\n", "word 99999999999999999999999\n", "word -99999999999999999999999\n",
		"need a\n", "symbol a 0\n", "base 0 0\n", // no words
		"word 1\nneed a\n", "symbol a 0\nword 1\n", "base 0 0\nword 1\n", "word 1\nbase 0 0\nsymbol a 0\n", // out of order
		"word 1\nword 1\nbase 1 0\nbase 0 0\n", "word 1\nbase 0 0\nbase 0 0\n",
		"need\nword 1\n", "need \nword 1\n", "need A\nword 1\n", "need a b\nword 1\n", "need a\nneed a\nword 1\n", "need abcdefghi\nword 1\n",
		"weak need a\nword 1\n", "weak word 1\n", "word 1\nweak base 0 0\n", "word 1\nweak weak symbol a 0\n", "word 1\nsymbol weak a 0\n",
		"word 1\nsymbol a\n", "word 1\nsymbol a 1\n", "word 1\nsymbol a -1\n", "word 1\nsymbol a x\n", "word 1\nsymbol a 0 0\n", "word 1\nsymbol 0 a\n", "word 1\nsymbol a 0\nsymbol a 0\n",
		"word 1\nbase 0\n", "word 1\nbase 0 0 a\n", "word 1\nbase 0 0 \n", "word 1\nbase 1 0\n", "word 1\nbase 0 2147483648\n", "word 1\nbase x 0\n",
		"word 1\nwhole 0 0\n", "word 1\nwhole 0 0 \n", "word 1\nwhole 0 0 A\n", "word 1\nwhole 0 0 a b\n", "word 1\nwhole 1 0 a\n", "word 1\nwhole 0 a 0\n",
		"word 1\nnear 0 0\n", "word 1\nnear 0 0 a \n", "word 1\nnear 0  0 a\n", "word 1\nnear -0 0 a\n", "word 1\nfar 0 0 a\n",
		"need a\nneed b\nneed c\nneed d\nneed e\nword 1\n",
		strings.Repeat("word 1\n", 41),
		"word 1\nsymbol a 0\nsymbol b 0\nsymbol c 0\nsymbol d 0\nsymbol e 0\nsymbol f 0\nsymbol g 0\nsymbol h 0\nsymbol i 0\n",
		strings.Repeat("word 1\n", 7) + "base 0 0\nbase 1 0\nbase 2 0\nbase 3 0\nbase 4 0\nbase 5 0\nbase 6 0\n",
	} {
		refuse(t, s, api.ErrText)
	}
}

// refuse: Parse answers that error, and no object.
func refuse(t *testing.T, s string, want error) {
	t.Helper()
	if o, err := Parse(s); err != want || !equal(o, api.Object{}) {
		t.Errorf("Parse(%.80q): %v, %v, want %v", s, o, err, want)
	}
}

// TestB3Changed: a text that one byte is put into, or taken from, or changed in, is refused, or is just another object's.
func TestB3Changed(t *testing.T) {
	for at := range len(plainText) {
		for _, with := range []string{"", " ", "\n", "0", "9", "-", "a", "_", "w", "weak ", "\x00", "word 5\n"} {
			for cut := range 2 {
				s := plainText[:at] + with + plainText[at+cut:]
				o, err := Parse(s)
				if err != nil {
					refuse(t, s, api.ErrText)
				} else if u, err := Text(o); u != s || err != nil {
					t.Errorf("Parse(%q): %v, whose text is %q, %v", s, o, u, err)
				}
			}
		}
	}
}

// TestW6WrittenIsRead: objects of all sizes, written and read.
func TestW6WrittenIsRead(t *testing.T) {
	for n := range 2000 {
		o := drawn(uint32(n))
		s, err := Text(o)
		if err != nil {
			t.Fatalf("Text(%v): %v", o, err)
		}
		if got, err := Parse(s); err != nil || !equal(got, o) {
			t.Fatalf("Parse(%q): %v, %v, want %v", s, got, err, o)
		}
	}
}

// drawn: an object that may be, another one for each seed.
func drawn(seed uint32) api.Object {
	draw := func(most int) int {
		seed = seed*1664525 + 1013904223
		return int(seed>>8) % most
	}
	word := func() int { return []int{0, -1, api.MaxWord, -api.MaxWord - 1, draw(1000), -draw(1 << 20)}[draw(6)] }
	var o api.Object
	for i := range draw(api.MaxNeeds + 1) {
		o.Needs = append(o.Needs, fmt.Sprintf("n%d_%d", i, draw(100)))
	}
	for range 1 + draw(api.MaxWords) {
		o.Words = append(o.Words, word())
	}
	for i := range draw(api.MaxSymbols + 1) {
		o.Symbols = append(o.Symbols, api.Symbol{Name: fmt.Sprintf("s%d", i), At: draw(len(o.Words)), Weak: draw(2) == 0})
	}
	for at := range o.Words {
		if draw(4) > 0 || len(o.Ties) == api.MaxTies {
			continue
		}
		x := api.Tie{At: at, Kind: api.Base + draw(3), Add: word()}
		if x.Kind != api.Base {
			x.Name, x.Weak = fmt.Sprintf("t%d", draw(10)), draw(2) == 0
		}
		o.Ties = append(o.Ties, x)
	}
	return o
}

// TestZ2: what is handed in stays as it was, and what comes out shares no memory.
func TestZ2(t *testing.T) {
	o := plain()
	if Check(o) != nil || !equal(o, plain()) {
		t.Error("Check wrote into what it was given")
	}
	if _, err := Text(o); err != nil || !equal(o, plain()) {
		t.Error("Text wrote into what it was given")
	}
	one, _ := Parse(plainText)
	two, _ := Parse(plainText)
	one.Needs[0], one.Words[0], one.Symbols[0].Name, one.Ties[0].Add = "other", 99, "other", 99
	if !equal(two, plain()) {
		t.Error("two answers share memory")
	}
}
