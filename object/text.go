package object

import (
	"strconv"
	"strings"

	"marlinspike/api"
)

// Text of an object, line by line.
func Text(o api.Object) (string, error) {
	if err := Check(o); err != nil {
		return "", err
	}
	var b strings.Builder
	for _, s := range o.Needs {
		b.WriteString(line(false, "need", s))
	}
	for _, n := range o.Words {
		b.WriteString(line(false, "word", strconv.Itoa(n)))
	}
	for _, s := range o.Symbols {
		b.WriteString(line(s.Weak, "symbol", s.Name, strconv.Itoa(s.At)))
	}
	for _, t := range o.Ties {
		b.WriteString(tieLine(t))
	}
	if b.Len() > api.MaxText {
		return "", api.ErrMany
	}
	return b.String(), nil
}

func tieLine(t api.Tie) string {
	at, add := strconv.Itoa(t.At), strconv.Itoa(t.Add)
	switch t.Kind {
	case api.Base:
		return line(false, "base", at, add)
	case api.Whole:
		return line(t.Weak, "whole", at, add, t.Name)
	}
	return line(t.Weak, "near", at, add, t.Name)
}

func line(weak bool, words ...string) string {
	l := strings.Join(words, " ") + "\n"
	if weak {
		return "weak " + l
	}
	return l
}

// Parse an object.
func Parse(s string) (api.Object, error) {
	if len(s) > api.MaxText {
		return api.Object{}, api.ErrMany
	}
	// read takes what it can of any text: only what is written back as it
	// stood is an object's Text.
	o := read(s)
	if t, err := Text(o); err != nil || t != s {
		return api.Object{}, api.ErrText
	}
	return o, nil
}

// read the lines of a text that are of an object; others are passed over.
func read(s string) api.Object {
	var o api.Object
	for _, l := range strings.Split(s, "\n") {
		readLine(&o, l)
	}
	return o
}

func readLine(o *api.Object, l string) {
	l, weak := strings.CutPrefix(l, "weak ")
	words := strings.Split(l, " ")
	kind, rest := words[0], words[1:]
	switch {
	case kind == "need" && len(rest) == 1:
		o.Needs = append(o.Needs, strings.Clone(rest[0]))
	case kind == "word" && len(rest) == 1:
		o.Words = append(o.Words, number(rest[0]))
	case kind == "symbol" && len(rest) == 2:
		o.Symbols = append(o.Symbols, api.Symbol{Name: strings.Clone(rest[0]), At: number(rest[1]), Weak: weak})
	case kind == "base" && len(rest) == 2:
		o.Ties = append(o.Ties, api.Tie{At: number(rest[0]), Kind: api.Base, Add: number(rest[1]), Weak: weak})
	case kind == "whole" && len(rest) == 3:
		o.Ties = append(o.Ties, namedTie(api.Whole, rest, weak))
	case kind == "near" && len(rest) == 3:
		o.Ties = append(o.Ties, namedTie(api.Near, rest, weak))
	}
}

// namedTie of three words: At, Add, Name.
func namedTie(kind int, words []string, weak bool) api.Tie {
	return api.Tie{At: number(words[0]), Kind: kind, Add: number(words[1]), Name: strings.Clone(words[2]), Weak: weak}
}

// number: what isn't one is read as some other number, which is not written
// back the same, so its error needs no telling.
func number(s string) int {
	n, _ := strconv.Atoi(s)
	return n
}
