package shelf

import (
	"strings"

	"marlinspike/api"
	"marlinspike/disk"
	"marlinspike/entry"
)

// minSectors: without as many there is no shelf.
const minSectors = 112

// half: sectors of each of the two bodies, of which one stands and the other one may be written. Three entries of at most 752 bytes each take 36.
const half = (minSectors - 1) / 2

// mark of a head, behind which stand two bytes: which body, how many of its sectors.
const mark = "marlinspike shelf "

// head: which body stands, and how many sectors it has.
type head struct{ body, sectors int }

// other body, that nobody has until a head tells of it.
func (h head) other() int { return 1 - h.body }

// start of a body: its first sector, behind the head's.
func start(body int) int { return 1 + body*half }

// text of a head, as its sector has it.
func (h head) text() string {
	s := mark + string([]byte{byte(h.body), byte(h.sectors)})
	return s + strings.Repeat("\x00", api.Sector-len(s))
}

// readHead: ErrText, if there is none.
func readHead(d *disk.Disk) (head, error) {
	s, err := d.Read(0)
	if err != nil {
		return head{}, err
	}
	if d.Sectors() < minSectors {
		return head{}, api.ErrText
	}
	h := head{int(s[len(mark)]), int(s[len(mark)+1])}
	if h.body > 1 || h.sectors > half || h.text() != s {
		return head{}, api.ErrText
	}
	return h, nil
}

// writeHead: from then on just its body stands, for good.
func writeHead(d *disk.Disk, h head) error {
	if err := d.Write(0, h.text()); err != nil {
		return err
	}
	return d.Flush()
}

// readBody: its text. As that ends in no nought, those at its end are the last sector's.
func readBody(d *disk.Disk, h head) (string, error) {
	var b strings.Builder
	for i := range h.sectors {
		s, err := d.Read(start(h.body) + i)
		if err != nil {
			return "", err
		}
		b.WriteString(s)
	}
	return strings.TrimRight(b.String(), "\x00"), nil
}

// writeBody, and keep it, ahead of the head that tells of it.
func writeBody(d *disk.Disk, body int, text string) (head, error) {
	h := head{body: body}
	for len(text) > 0 {
		n := min(len(text), api.Sector)
		if err := d.Write(start(body)+h.sectors, text[:n]); err != nil {
			return head{}, err
		}
		text, h.sectors = text[n:], h.sectors+1
	}
	return h, d.Flush()
}

// textOf entries: of each its Text.
func textOf(l []api.Entry) (string, error) {
	var b strings.Builder
	for _, e := range l {
		s, err := entry.Text(e)
		if err != nil {
			return "", err
		}
		b.WriteString(s)
	}
	return b.String(), nil
}

// parse the text of entries: ErrText, if no shelf has written it.
func parse(text string) ([]api.Entry, error) {
	var l []api.Entry
	for line := range cut(text) {
		e, err := entry.Parse(line)
		if err != nil {
			return nil, err
		}
		if len(l) == api.MaxRoots || find(l, e.Root) >= 0 {
			return nil, api.ErrText
		}
		l = append(l, e)
	}
	return l, nil
}

// cut a text into lines, each with its end; what has none at the last is told too, and is no entry.
func cut(text string) func(yield func(string) bool) {
	return func(yield func(string) bool) {
		for at := 0; at < len(text); {
			end := len(text)
			if i := strings.IndexByte(text[at:], '\n'); i >= 0 {
				end = at + i + 1
			}
			if !yield(text[at:end]) {
				return
			}
			at = end
		}
	}
}
