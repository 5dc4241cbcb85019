package entry

import (
	"strconv"
	"strings"

	"marlinspike/api"
)

// Words of a text: as many at its head as a part has, and as a patch has.
const (
	each     = 3
	maxWords = each + each*(api.MaxFiles+maxPatches)
)

// Text of an entry: a line.
func Text(e api.Entry) (string, error) {
	if err := Check(e); err != nil {
		return "", err
	}
	words := []string{e.Root, strconv.Itoa(len(e.Parts)), strconv.Itoa(len(e.Patches))}
	for i := range len(e.Parts) {
		p := e.Parts[i]
		words = append(words, p.Name, strconv.Itoa(p.Stamp), strconv.Itoa(p.Base))
	}
	for i := range len(e.Patches) {
		p := e.Patches[i]
		words = append(words, strconv.Itoa(p.Part), strconv.Itoa(p.At), strconv.Itoa(p.Word))
	}
	return strings.Join(words, " ") + "\n", nil
}

// Parse an entry.
func Parse(s string) (api.Entry, error) {
	// read takes what it can of any text: only what is written back as it
	// stood is an entry's Text.
	e := read(s)
	if t, err := Text(e); err != nil || t != s {
		return api.Entry{}, api.ErrText
	}
	return e, nil
}

// read the words of a text, if there are as many as it tells of; else nothing, which is no entry.
func read(s string) api.Entry {
	// No more words than an entry has: the last one takes the rest, however
	// long that is.
	words := strings.SplitN(strings.TrimSuffix(s, "\n"), " ", maxWords)
	if len(words) < each {
		return api.Entry{}
	}
	parts, patches := number(words[1]), number(words[2])
	// How many are told of is held against the bounds ahead of the sum, that
	// may go beyond what an int tells.
	if !mayBe(parts, patches) || len(words) != each+each*(parts+patches) {
		return api.Entry{}
	}
	e := api.Entry{Root: strings.Clone(words[0])}
	words = words[each:]
	for i := range parts {
		w := words[each*i:]
		e.Parts = append(e.Parts, api.Stamped{Name: strings.Clone(w[0]), Stamp: number(w[1]), Base: number(w[2])})
	}
	words = words[each*parts:]
	for i := range patches {
		w := words[each*i:]
		e.Patches = append(e.Patches, api.Patch{Part: number(w[0]), At: number(w[1]), Word: number(w[2])})
	}
	return e
}

// number: what isn't one is read as some other number, which is not written
// back the same, so its error needs no telling.
func number(s string) int {
	n, _ := strconv.Atoi(s)
	return n
}
