package console

import (
	"slices"
	"strconv"
	"strings"
	"testing"

	"marlinspike/api"
	"marlinspike/disk"
	"marlinspike/entry"
	"marlinspike/files"
	"marlinspike/image"
	"marlinspike/loader"
	"marlinspike/object"
	"marlinspike/shelf"
)

// dice: numbers that look drawn, the same each time.
func dice(seed uint32) func(most int) int {
	return func(most int) int {
		seed = seed*1664525 + 1013904223
		return int(seed>>8) % most
	}
}

// drawn lines: most of them do something. Some of a few files that may be are ahead of them.
func drawn(draw func(int) int, armed bool) []string {
	l := []string{"line need b", "line word 4", "line word 5", "line near 1 0 x", "write a", "write c", "clear", "line word 7", "line symbol x 0", "line base 0 1", "write b"}
	if draw(3) == 0 {
		l = l[:draw(len(l))]
	}
	for range draw(api.MaxLines + 1 - len(l)) {
		n := []string{"a", "a", "b", "b", "c", "d", "A", ""}[draw(8)]
		switch draw(12) {
		case 0, 1, 2:
			l = append(l, "line "+[]string{"word 1", "word -20", "need a", "need b\nneed c", "symbol x 0", "weak symbol y 1", "whole 0 3 x", "weak near 1 4 y", "base 2 -9", ""}[draw(10)])
		case 3:
			l = append(l, []string{"clear", "object", "list", "roots", "", "line", "load", "list a"}[draw(8)])
		case 4:
			l = append(l, "restart "+strconv.Itoa(draw(1000)))
		case 5:
			if armed {
				l = append(l, "arm "+strconv.Itoa(draw(12)))
			}
		default:
			l = append(l, []string{"write ", "write ", "remove ", "stamp ", "build ", "build ", "drop ", "load ", "load ", "entry ", "hash "}[draw(11)]+n)
		}
	}
	return l
}

// model: what the layers themselves say to the lines that are drawn, told one by one.
type model struct {
	t      *testing.T
	files  *files.Files
	loader *loader.Loader
	shelf  *shelf.Shelf
	text   []string
}

func newModel(t *testing.T) *model {
	t.Helper()
	d, err := disk.New(api.Sectors)
	if err != nil {
		t.Fatal(err)
	}
	if err := shelf.Format(d); err != nil {
		t.Fatal(err)
	}
	m := &model{t: t, files: files.New()}
	if m.loader, err = loader.New(m.files, d); err != nil {
		t.Fatal(err)
	}
	if m.shelf, err = shelf.Open(d); err != nil {
		t.Fatal(err)
	}
	return m
}

// either an error's number, or what is told.
func either(told string, err error) string {
	for n := range api.ErrState + 1 {
		if err == n {
			return "error " + strconv.Itoa(int(n))
		}
	}
	return told
}

func (m *model) says(line string) string {
	word, n, more := strings.Cut(line, " ")
	text := strings.Join(m.text, "")
	switch {
	case line == "" || line == "line" || line == "load" || line == "list a":
		return "error 4"
	case word == "line":
		m.text = append(m.text, n, "\n")
		return "ok"
	case word == "clear":
		m.text = nil
		return "ok"
	case word == "object":
		o, err := object.Parse(text)
		return either(strconv.Itoa(len(o.Words))+" words", err)
	case word == "restart":
		return "ok" // all is kept
	case !more:
		l := map[string]func() []string{"list": m.files.List, "roots": m.loader.Roots}[word]()
		if len(l) == 0 {
			return "-"
		}
		return strings.Join(l, " ")
	case word == "write":
		return either("ok", m.files.Write(n, text))
	case word == "remove":
		return either("ok", m.files.Remove(n))
	case word == "build":
		return either("ok", m.loader.Build(n))
	case word == "drop":
		return either("ok", m.loader.Drop(n))
	}
	return m.asks(word, n)
}

// asks: lines that change nothing.
func (m *model) asks(word, n string) string {
	switch word {
	case "stamp":
		_, stamp, err := m.files.Read(n)
		return either(strconv.Itoa(stamp), err)
	case "hash":
		return strconv.Itoa(int(hashOf(n)))
	case "entry":
		e, ok := m.shelf.Get(n)
		if !ok {
			return "error 5"
		}
		s, err := entry.Text(e)
		return either(strings.TrimRight(s, "\n"), err)
	}
	e, ok := m.shelf.Get(n)
	how := "new"
	if ok && entry.Fresh(e, m.files) {
		how = "kept"
	}
	parts, err := image.Load(m.files, n) // anew, whether it was kept or not: that is the same
	for i, p := range parts {
		how += " " + p.Name + " " + strconv.Itoa(p.Base) + ":"
		for _, w := range p.Words {
			how += " " + strconv.Itoa(w)
		}
		if i+1 < len(parts) {
			how += ";"
		}
	}
	return either(how, err)
}

// TestDrawn: sessions are as the layers say; what is kept is as good as new.
func TestDrawn(t *testing.T) {
	draw := dice(13)
	kept := 0
	for range 4000 {
		in := drawn(draw, false)
		m := newModel(t)
		for i, got := range answers(t, in) {
			if want := m.says(in[i]); got != want {
				t.Fatalf("behind %q: %q: %q, want %q", in[:i], in[i], got, want)
			}
			if strings.HasPrefix(got, "kept ") {
				kept++
			}
		}
	}
	if kept < 200 {
		t.Errorf("%d were loaded by what is kept", kept)
	}
}

// isAnswer: is it one to that line, whatever was ahead?
func isAnswer(line, answer string) bool {
	if digits, ok := strings.CutPrefix(answer, "error "); ok {
		n, err := strconv.Atoi(digits)
		return err == nil && n >= int(api.ErrBound) && n <= int(api.ErrState)
	}
	word, _, _ := strings.Cut(line, " ")
	switch word {
	case "line", "clear", "write", "remove", "build", "drop", "arm", "restart":
		return answer == "ok"
	case "object":
		return strings.HasSuffix(answer, " words")
	case "load":
		return strings.HasPrefix(answer, "new ") || strings.HasPrefix(answer, "kept ")
	case "list", "roots", "stamp", "entry", "hash":
		return answer != "" && !strings.Contains(answer, "\n")
	}
	return false
}

// TestN2Armed: also behind arm each line is answered, and just so each time.
func TestN2Armed(t *testing.T) {
	draw := dice(14)
	for range 2000 {
		in := drawn(draw, true)
		got := answers(t, in)
		for i := range in {
			if !isAnswer(in[i], got[i]) {
				t.Fatalf("behind %q: %q: %q", in[:i], in[i], got[i])
			}
		}
		if !slices.Equal(got, answers(t, in)) {
			t.Fatalf("%q: other answers the second time", in)
		}
	}
}

// TestN1Fall: behind a fall at any step, with any of what was written, all entries are as they were, or as they are to be.
func TestN1Fall(t *testing.T) {
	ahead, behind, stood := 0, 0, 0
	for n := range 12 {
		for keep := range 64 {
			in := append(two(), "build libc", "arm "+strconv.Itoa(n), "build app", "load app", "restart "+strconv.Itoa(keep), "roots", "entry libc", "load libc", "load app")
			got := answers(t, in)[len(two())+2:]
			const parts = " app 0: 17 0 15; libc 16: 21 22"
			was := []string{"error 9", "new" + parts, "ok", "libc", "libc 1 1 libc 1 0 0 0 5", "kept libc 0: 5 22", "new" + parts}
			is := slices.Replace(slices.Clone(was), 3, 4, "libc app")
			is[6] = "kept" + parts
			switch {
			case slices.Equal(got, was):
				ahead++
			case got[0] == "ok" && got[1] == is[6] && slices.Equal(got[2:], is[2:]):
				stood++
			case slices.Equal(got, is): // the last Write, which wasn't flushed, is kept
				behind++
			default:
				t.Fatalf("%q: %q", in, got)
			}
		}
	}
	if ahead == 0 || behind == 0 || stood == 0 {
		t.Errorf("behind %d falls all was as ahead, behind %d as it was to be; %d times nothing fell", ahead, behind, stood)
	}
}

// TestZ2Lines: what is handed in stays, nothing behind it is read, and what comes out is the caller's.
func TestZ2Lines(t *testing.T) {
	all := append(two(), "list", "load app", "hash print")
	was := slices.Clone(all)
	whole := answers(t, all)
	for n := range len(all) + 1 {
		if got := answers(t, all[:n]); !slices.Equal(got, whole[:n]) {
			t.Errorf("the first %d lines: %q", n, got)
		}
	}
	clear(whole)
	if again := answers(t, all); slices.Contains(again, "") {
		t.Errorf("they are %q", again)
	}
	if !slices.Equal(all, was) {
		t.Errorf("lines became %q", all)
	}
}

// FuzzRun: whatever the lines are, each is answered.
func FuzzRun(f *testing.F) {
	f.Add(strings.Join(two(), ";"))
	f.Add(strings.Join(none(), ";"))
	f.Add("line word 1;write a;build a;arm 2;build a;restart 3;load a")
	f.Fuzz(func(t *testing.T, s string) {
		in := strings.Split(s, ";")
		got, err := Run(in)
		if len(in) > api.MaxLines {
			if err != api.ErrMany || len(got) > 0 {
				t.Fatalf("%d lines: %q, %v", len(in), got, err)
			}
			return
		}
		if err != nil || len(got) != len(in) {
			t.Fatalf("%q: %q, %v", in, got, err)
		}
		for i := range in {
			if !isAnswer(in[i], got[i]) {
				t.Fatalf("behind %q: %q: %q", in[:i], in[i], got[i])
			}
		}
	})
}
