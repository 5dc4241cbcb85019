package console

import (
	"fmt"
	"slices"
	"strings"
	"testing"

	"marlinspike/api"
)

// lines of a session, "LINE => ANSWER" each.
func lines(session string) (in, out []string) {
	for _, l := range strings.Split(strings.Trim(session, "\n"), "\n") {
		line, answer, _ := strings.Cut(l, " => ")
		in, out = append(in, line), append(out, answer)
	}
	return in, out
}

// answers of lines that aren't too many.
func answers(t *testing.T, in []string) []string {
	t.Helper()
	got, err := Run(in)
	if err != nil || len(got) != len(in) {
		t.Fatalf("Run(%q): %d answers, %v", in, len(got), err)
	}
	return got
}

// says: each line is answered just so.
func says(t *testing.T, in, out []string) {
	t.Helper()
	for i, got := range answers(t, in) {
		if got != out[i] {
			t.Errorf("behind %q: %q: %q, want %q", in[:i], in[i], got, out[i])
		}
	}
}

// told: a session, each line of which is answered just so.
func told(t *testing.T, s string) {
	t.Helper()
	in, out := lines(s)
	says(t, in, out)
}

// behind lines that are all answered by ok: each of these is answered just so.
func behind(t *testing.T, ahead []string, s string) {
	t.Helper()
	in, out := lines(s)
	says(t, append(slices.Clone(ahead), in...), append(slices.Repeat([]string{"ok"}, len(ahead)), out...))
}

// two files: libc, of stamp 1, and app, of stamp 2; the text is app's.
func two() []string {
	return []string{
		"line word 11", "line word 22", "line symbol print 1", "line weak symbol hook 0", "line base 0 5", "write libc",
		"clear", "line need libc", "line word 0", "line word 0", "line word 0", "line symbol main 0",
		"line whole 0 0 print", "line weak whole 1 0 missing", "line near 2 0 print", "write app",
	}
}

// TestExample: as the document has it.
func TestExample(t *testing.T) {
	told(t, `
clear => ok
line word 11 => ok
line word 22 => ok
line symbol print 1 => ok
line weak symbol hook 0 => ok
line base 0 5 => ok
write libc => ok
clear => ok
line need libc => ok
line word 0 => ok
line word 0 => ok
line word 0 => ok
line symbol main 0 => ok
line whole 0 0 print => ok
line weak whole 1 0 missing => ok
line near 2 0 print => ok
object => 3 words
write app => ok
list => app libc
load app => new app 0: 17 0 15; libc 16: 21 22
build app => ok
load app => kept app 0: 17 0 15; libc 16: 21 22
entry app => app 2 4 app 2 0 libc 1 16 0 0 17 0 1 0 0 2 15 1 0 21
hash print => 7835732
stamp app => 2
clear => ok
line word 1 => ok
line symbol print 0 => ok
write libc => ok
load app => new app 0: 16 0 14; libc 16: 1
entry app => app 2 4 app 2 0 libc 1 16 0 0 17 0 1 0 0 2 15 1 0 21
build app => ok
load app => kept app 0: 16 0 14; libc 16: 1
remove libc => ok
load app => error 5
roots => app
drop app => ok
drop app => error 5
roots => -
restart 0 => ok
load libc => error 5
clear => ok
line word 1 => ok
line whole 0 0 nobody => ok
write bad => ok
load bad => error 6
write Bad => error 3
fly high => error 4
`)
}

func TestN1HowManyLines(t *testing.T) {
	for _, n := range []int{0, 1, 2, api.MaxLines - 1, api.MaxLines} {
		says(t, slices.Repeat([]string{"list"}, n), slices.Repeat([]string{"-"}, n))
	}
	if got, err := Run(nil); len(got) != 0 || err != nil {
		t.Errorf("Run(nil): %q, %v", got, err)
	}
	for _, n := range []int{api.MaxLines + 1, 2 * api.MaxLines, 10000} {
		if got, err := Run(make([]string, n)); len(got) != 0 || err != api.ErrMany {
			t.Errorf("Run of %d lines: %q, %v", n, got, err)
		}
	}
}

func TestN1Text(t *testing.T) {
	told(t, `
object => error 4
write none => ok
load none => error 4
line word -7 => ok
object => 1 words
line word 8 => ok
object => 2 words
write a => ok
object => 2 words
load a => new a 0: -7 8
line => error 4
object => 2 words
line  => ok
object => error 4
write a => ok
load a => error 4
stamp a => 3
clear => ok
object => error 4
line word 1 => ok
clear => ok
clear => ok
line word 2 => ok
write a => ok
load a => new a 0: 2
clear => ok
line  word 2 => ok
object => error 4
clear => ok
line word 2  => ok
object => error 4
clear => ok
line line word 2 => ok
object => error 4
stamp none => 1
stamp a => 4
`)
}

// TestN1TextAsItIs: all that stands behind the blank, also the end of a line.
func TestN1TextAsItIs(t *testing.T) {
	says(t, []string{"line word 1\nword 2", "object", "line \n", "object", "clear", "line \xff\x00\t", "object", "clear", "line word 3\r", "object", "clear", "line word 3", "object"},
		[]string{"ok", "2 words", "ok", "error 4", "ok", "ok", "error 4", "ok", "ok", "error 4", "ok", "ok", "1 words"})
}

// words: a line of at most eight words.
func words(n int) string { return "line " + strings.TrimSuffix(strings.Repeat("word 1\n", n), "\n") }

// TestN1LongText: of as many bytes as a file may have, and of one more.
func TestN1LongText(t *testing.T) {
	full := slices.Repeat([]string{"line " + strings.Repeat("x", 54)}, 21) // of 55 bytes each: 1155
	full = append(full, "line "+strings.Repeat("x", 44))                   // 1200
	behind(t, full, `
object => error 4
write a => ok
load a => error 4
line  => ok
object => error 2
write a => error 2
write b => error 2
write A => error 3
list => a
stamp a => 1
clear => ok
object => error 4
write b => ok
`)
	most := slices.Repeat([]string{words(8)}, 5)
	behind(t, most, "object => 40 words\nline word 1 => ok\nobject => error 4")
}

func TestN1Files(t *testing.T) {
	told(t, `
list => -
stamp a => error 5
remove a => error 5
line word 1 => ok
write b => ok
write a_9 => ok
write a => ok
list => a a_9 b
stamp b => 1
stamp a => 3
write b => ok
stamp b => 4
list => a a_9 b
remove a_9 => ok
remove a_9 => error 5
stamp a_9 => error 5
list => a b
write c => ok
write d => ok
write e => ok
write abcdefgh => ok
list => a abcdefgh b c d e
write f => error 8
write F => error 3
stamp f => error 5
write e => ok
stamp e => 9
remove a => ok
write f => ok
stamp f => 10
list => abcdefgh b c d e f
`)
}

func TestN1Loader(t *testing.T) {
	behind(t, two(), `
roots => -
entry app => error 5
load libc => new libc 0: 5 22
build libc => ok
build app => ok
roots => libc app
load libc => kept libc 0: 5 22
load app => kept app 0: 17 0 15; libc 16: 21 22
entry libc => libc 1 1 libc 1 0 0 0 5
build libc => ok
roots => libc app
drop libc => ok
roots => app
entry libc => error 5
load libc => new libc 0: 5 22
load app => kept app 0: 17 0 15; libc 16: 21 22
drop libc => error 5
write other => ok
load app => kept app 0: 17 0 15; libc 16: 21 22
write app => ok
load app => new app 0: 17 0 15; libc 16: 21 22
entry app => app 2 4 app 2 0 libc 1 16 0 0 17 0 1 0 0 2 15 1 0 21
build app => ok
entry app => app 2 4 app 4 0 libc 1 16 0 0 17 0 1 0 0 2 15 1 0 21
build other => ok
build libc => ok
roots => app other libc
clear => ok
line word 1 => ok
write more => ok
build more => error 2
load more => new more 0: 1
remove libc => ok
build app => error 5
entry libc => libc 1 1 libc 1 0 0 0 5
load libc => error 5
roots => app other libc
drop app => ok
build more => ok
load more => kept more 0: 1
roots => other libc more
`)
}

// TestN1Restart: what was built is kept, and the files and the text are as they were.
func TestN1Restart(t *testing.T) {
	behind(t, two(), `
build app => ok
restart 0 => ok
roots => app
load app => kept app 0: 17 0 15; libc 16: 21 22
object => 3 words
list => app libc
stamp app => 2
restart 999 => ok
restart 10 => ok
load app => kept app 0: 17 0 15; libc 16: 21 22
drop app => ok
restart 7 => ok
roots => -
load app => new app 0: 17 0 15; libc 16: 21 22
write libc => ok
stamp libc => 3
`)
}

func TestN1Hash(t *testing.T) {
	told(t, `
hash a => 97
hash A => 65
hash ab => 1650
hash print => 7835732
hash  => 0
hash hash_of_a_word_that_is_no_name => 182201781
`)
}

// TestN1EachIsNew: the answers to a session don't hang on the one ahead of it.
func TestN1EachIsNew(t *testing.T) {
	for range 2 {
		told(t, "list => -\nroots => -\nobject => error 4\nline word 1 => ok\nwrite a => ok\nstamp a => 1\nbuild a => ok\nroots => a")
	}
}

// TestN2Errors: each of the numbers that may come.
func TestN2Errors(t *testing.T) {
	told(t, `
line word 1 => ok
write abcdefghi => error 1
write  => error 1
write A => error 3
write a-b => error 3
write 1a => error 3
load A => error 5
load  => error 5
build  => error 5
drop  => error 5
entry  => error 5
stamp  => error 5
remove  => error 5
build A => error 5
entry A => error 5
line whole 0 0 x => ok
write loose => ok
load loose => error 6
build loose => error 6
clear => ok
line word 1 => ok
line symbol x 0 => ok
line near 0 501 x => ok
write far => ok
load far => error 7
build far => error 7
clear => ok
line need gone => ok
line word 1 => ok
write alone => ok
load alone => error 5
write gone => ok
load alone => new alone 0: 1; gone 16: 1
roots => -
list => alone far gone loose
`)
	// Six objects, of which five take three pages each, and one two: that is one page too many.
	full := []string{"line need b\nneed c\nneed d\nneed e", words(8), words(8), words(8), words(8), words(1), "write a", "write b", "write c", "write d", "write e",
		"clear", "line need a", words(8), words(8), "write f"}
	behind(t, full, `
load a => new a 0:`+strings.Repeat(" 1", 33)+`; b 48:`+strings.Repeat(" 1", 33)+`; c 96:`+strings.Repeat(" 1", 33)+`; d 144:`+strings.Repeat(" 1", 33)+`; e 192:`+strings.Repeat(" 1", 33)+`
line word 1 => ok
object => 17 words
write f => ok
load f => error 8
build f => error 8
`)
}

// none: lines that are none of those that there are.
func none() []string {
	l := []string{"", " ", "  ", "\n", "fly", "fly high", "line", "Line x", "lines x", " line x", "line\tx", "line\n", "CLEAR", "clear ", " clear", "clear a", "clear\n",
		"object ", "object a", "objects", "write", "write a b", "write a ", "write  a", " write a", "write\ta", "Write a", "writea", "remove", "remove a b", "remove a ",
		"stamp", "stamp a b", "stamp  a", "list ", "list a", "roots ", "roots a", "build", "build a b", "drop", "drop a ", "load", "load a b", "load  ", "load  a", "load a ",
		"entry", "entry a b", "hash", "hash a b", "hash  ", "ok", "error 4", "arm", "restart", "-", "=>"}
	for _, n := range []string{"", " ", "x", "00", "01", "007", "0000", "1000", "0999", "18446744073709551616", "-0", "-1", "-10", "+1", "+0", "1 ", " 1", "1 2", "1x", "x1", "0x1", "1_0", "1.", "1e1", "1\n", "٣", "１"} {
		l = append(l, "arm "+n, "restart "+n)
	}
	return append(l, strings.Repeat("x", 61), "line "+strings.Repeat("x", 56), "line word 1"+strings.Repeat(" ", 50), "load "+strings.Repeat("a", 56), "hash "+strings.Repeat("a", 56),
		"write "+strings.Repeat("a", 1000), strings.Repeat("list\n", 1000))
}

// TestN2None: a line that is none of these is answered so, and changes nothing.
func TestN2None(t *testing.T) {
	for _, l := range none() {
		ahead := append(two(), "build app", l, "object", "list", "roots", "stamp app", "load app", "load a", l)
		got := answers(t, ahead)[len(two())+1:]
		want := []string{"error 4", "3 words", "app libc", "app", "2", "kept app 0: 17 0 15; libc 16: 21 22", "error 5", "error 4"}
		if !slices.Equal(got, want) {
			t.Errorf("%q: %q", l, got)
		}
	}
}

// TestN2LongLine: of MaxLine bytes, and of one more.
func TestN2LongLine(t *testing.T) {
	for n, want := range map[int]string{api.MaxLine - 1: "error 5", api.MaxLine: "error 5", api.MaxLine + 1: "error 4", 10 * api.MaxLine: "error 4"} {
		l := "load " + strings.Repeat("a", n-5)
		says(t, []string{l}, []string{want})
	}
	at := "line " + strings.Repeat("x", api.MaxLine-5)
	says(t, []string{at, at + "x", "clear", "line word 1", at + "x", "object"}, []string{"ok", "error 4", "ok", "ok", "error 4", "1 words"})
	told(t, "hash "+strings.Repeat("0", 55)+" => "+fmt.Sprint(hashOf(strings.Repeat("0", 55))))
}

// hashOf a text, by the words of A2.
func hashOf(s string) uint32 {
	var h uint32
	for _, b := range []byte(s) {
		h = h<<4 + uint32(b)
		high := h & 0xf0000000
		h = (h ^ high>>24) &^ high
	}
	return h
}
