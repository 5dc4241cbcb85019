// Package object: objects, and their texts.
package object

import (
	"slices"

	"marlinspike/api"
	"marlinspike/name"
)

// Check an object.
func Check(o api.Object) error {
	if err := checkCounts(o); err != nil {
		return err
	}
	if err := checkNeeds(o.Needs); err != nil {
		return err
	}
	if err := checkWords(o.Words); err != nil {
		return err
	}
	if err := checkSymbols(o.Symbols, len(o.Words)); err != nil {
		return err
	}
	return checkTies(o.Ties, len(o.Words))
}

func checkCounts(o api.Object) error {
	if len(o.Needs) > api.MaxNeeds ||
		len(o.Words) == 0 || len(o.Words) > api.MaxWords ||
		len(o.Symbols) > api.MaxSymbols || len(o.Ties) > api.MaxTies {
		return api.ErrMany
	}
	return nil
}

func checkNeeds(needs []string) error {
	for i, s := range needs {
		if err := name.Check(s); err != nil {
			return err
		}
		if slices.Contains(needs[:i], s) {
			return api.ErrShape
		}
	}
	return nil
}

func checkWords(words []int) error {
	for _, n := range words {
		if !IsWord(n) {
			return api.ErrBound
		}
	}
	return nil
}

func checkSymbols(symbols []api.Symbol, words int) error {
	for i, s := range symbols {
		if err := name.Check(s.Name); err != nil {
			return err
		}
		if !isPlace(s.At, words) {
			return api.ErrBound
		}
		same := func(ahead api.Symbol) bool { return ahead.Name == s.Name }
		if slices.ContainsFunc(symbols[:i], same) {
			return api.ErrShape
		}
	}
	return nil
}

func checkTies(ties []api.Tie, words int) error {
	ahead := -1 // every place is above it, so the first tie may lie anywhere
	for _, t := range ties {
		if err := checkTie(t, ahead, words); err != nil {
			return err
		}
		ahead = t.At
	}
	return nil
}

// checkTie behind the one whose At is ahead, in an object of so many words.
func checkTie(t api.Tie, ahead, words int) error {
	if !isPlace(t.At, words) || !IsWord(t.Add) {
		return api.ErrBound
	}
	if t.At <= ahead {
		return api.ErrShape
	}
	switch t.Kind {
	case api.Base:
		if t.Name != "" || t.Weak {
			return api.ErrShape
		}
		return nil
	case api.Whole, api.Near:
		return name.Check(t.Name)
	}
	return api.ErrShape
}

// IsWord: is that number a word?
func IsWord(n int) bool { return n >= -api.MaxWord-1 && n <= api.MaxWord }

// isPlace: is there a word at that place, of so many?
func isPlace(at, words int) bool { return at >= 0 && at < words }
