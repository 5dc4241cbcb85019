// Package name: names, and their hashes.
package name

import "marlinspike/api"

// Check a name: small letters, digits and '_'; a letter first.
func Check(s string) error {
	if len(s) == 0 || len(s) > api.MaxName {
		return api.ErrBound
	}
	for i := range len(s) {
		if !fits(s[i], i == 0) {
			return api.ErrShape
		}
	}
	return nil
}

// fits: may that byte stand in a name?
func fits(b byte, first bool) bool {
	if b >= 'a' && b <= 'z' {
		return true
	}
	return !first && (b >= '0' && b <= '9' || b == '_')
}

// Hash of a name: of 28 bits.
func Hash(s string) uint32 {
	var h uint32
	for i := range len(s) {
		h = h*16 + uint32(s[i])
		h ^= (h >> 28) * 16
		h &= 1<<28 - 1
	}
	return h
}
