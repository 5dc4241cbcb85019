package console

import (
	"strconv"
	"strings"

	"marlinspike/api"
)

// done: what an act that tells nothing is answered by.
func done(err error) (string, error) { return "ok", err }

// count: a number, told.
func count(n int) string { return strconv.Itoa(n) }

// list of names.
func list(names ...string) string {
	if len(names) == 0 {
		return "-"
	}
	return strings.Join(names, " ")
}

// tell parts.
func tell(parts []api.Part) string {
	var l []string
	for _, p := range parts {
		s := p.Name + " " + count(p.Base) + ":"
		for _, w := range p.Words {
			s += " " + count(w)
		}
		l = append(l, s)
	}
	return strings.Join(l, "; ")
}

// fault: an error, told by its number.
func fault(err error) string {
	n, _ := err.(api.Errno) // no layer answers an error of another kind
	return "error " + count(int(n))
}
