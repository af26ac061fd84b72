// Package label is layer 1: see shared/doc/01-label.md.
package label

import (
	"math/bits"
	"strings"
	"unicode/utf8"

	"plumbob/api"
)

// The alphabets, as bits.
const (
	Latin = 1 << iota
	Greek
	Cyrillic
)

const (
	toSmall = 32 // from a capital letter to its small one, in each alphabet

	// notCapital stands among the Greek capital letters and is none: the small
	// letter 32 above it is the final sigma, which has no capital one of its own.
	notCapital = 0x03A2
)

type alphabet struct {
	bit         int
	first, last rune // of the small letters
}

// Letters of two alphabets may look alike: those beyond Latin stand as numbers.
var alphabets = [...]alphabet{
	{Latin, 'a', 'z'},
	{Greek, 0x03B1, 0x03C9},
	{Cyrillic, 0x0430, 0x044F},
}

// Normal form of a label.
func Normal(s string) (string, api.Errno) {
	n, ok := Runes(s)
	if !ok {
		return "", api.ErrForm
	}
	if n > api.MaxLabel {
		return "", api.ErrLong
	}
	if !labelMayBe(s) {
		return "", api.ErrRune
	}
	return strings.Map(Small, s), api.OK
}

// Alphabets of a text's letters.
func Alphabets(s string) int {
	sum := 0
	for _, r := range s {
		sum |= alphabetOf(r)
	}
	return sum
}

// Runes: how many a text has; false: it isn't made of runes.
func Runes(s string) (int, bool) {
	if !utf8.ValidString(s) {
		return 0, false
	}
	n := 0
	for range s {
		n++
	}
	return n, true
}

// Parts of a label, parted by its separators.
func Parts(s string) []string {
	var parts []string
	from := 0
	for i, r := range s {
		if isSeparator(r) {
			parts = append(parts, s[from:i])
			from = i + 1
		}
	}
	return append(parts, s[from:])
}

// Small letter of a rune.
func Small(r rune) rune {
	if isCapital(r) {
		return r + toSmall
	}
	return r
}

// labelMayBe looks at one part after the other: an empty one tells of a
// separator that is first, last, or behind another one.
func labelMayBe(s string) bool {
	if strings.Count(s, "@") > 1 {
		return false
	}
	for _, part := range Parts(s) {
		if !partMayBe(part) {
			return false
		}
	}
	return true
}

func partMayBe(part string) bool {
	for _, r := range part {
		if !isDigit(r) && alphabetOf(r) == 0 {
			return false
		}
	}
	return part != "" && bits.OnesCount(uint(Alphabets(part))) <= 1
}

// alphabetOf tells a letter's alphabet; 0 of what is no letter.
func alphabetOf(r rune) int {
	small := Small(r)
	for _, a := range alphabets {
		if small >= a.first && small <= a.last {
			return a.bit
		}
	}
	return 0
}

func isCapital(r rune) bool {
	for _, a := range alphabets {
		if r >= a.first-toSmall && r <= a.last-toSmall {
			return r != notCapital
		}
	}
	return false
}

func isDigit(r rune) bool {
	return r >= '0' && r <= '9'
}

func isSeparator(r rune) bool {
	switch r {
	case '.', '-', '_', '@':
		return true
	}
	return false
}
