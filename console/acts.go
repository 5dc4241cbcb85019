package console

import (
	"strconv"
	"strings"

	"marlinspike/api"
	"marlinspike/entry"
	"marlinspike/loader"
	"marlinspike/name"
)

// maxDigits of a number in a line.
const maxDigits = 3

// named: a line of a word and a name, which may be any word: what is wrong with it the act itself tells.
func (s *session) named(word, n string) (string, error) {
	switch word {
	case "write":
		return done(s.files.Write(n, s.text))
	case "remove":
		return done(s.files.Remove(n))
	case "stamp":
		_, stamp, err := s.files.Read(n)
		return count(stamp), err
	case "build":
		return done(s.loader.Build(n))
	case "drop":
		return done(s.loader.Drop(n))
	case "load":
		return s.load(n)
	case "entry":
		return s.entry(n)
	case "hash":
		return strconv.FormatUint(uint64(name.Hash(n)), 10), nil
	}
	return "", api.ErrText
}

func (s *session) load(root string) (string, error) {
	parts, kept, err := s.loader.Load(root)
	if err != nil {
		return "", err
	}
	if kept {
		return "kept " + tell(parts), nil
	}
	return "new " + tell(parts), nil
}

func (s *session) entry(root string) (string, error) {
	e, ok := s.loader.Get(root)
	if !ok {
		return "", api.ErrNone
	}
	line, err := entry.Text(e)
	return strings.TrimSuffix(line, "\n"), err
}

// numbered: a line of a word, arm or restart, and a number.
func (s *session) numbered(word, digits string) (string, error) {
	n, ok := number(digits)
	if !ok {
		return "", api.ErrText
	}
	if word == "arm" {
		s.disk.Arm(n)
		return done(nil)
	}
	s.disk.Restart(uint64(n))
	l, err := loader.New(s.files, s.disk)
	if err != nil {
		return "", err
	}
	s.loader = l
	return done(nil)
}

// number of at most three digits; false: it is none.
func number(s string) (int, bool) {
	n, err := strconv.Atoi(s)
	// Told anew it is the same, if it has neither noughts nor '+' ahead.
	if err != nil || n < 0 || len(s) > maxDigits || strconv.Itoa(n) != s {
		return 0, false
	}
	return n, true
}
