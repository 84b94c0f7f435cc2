package book

import (
	"strings"

	"timeball/api"
	"timeball/rule"
)

const (
	letterMark = "%" // where the letter goes
	separator  = "/" // between the abbreviations without and with a saving
	noLetter   = "-"
)

// Abbr returns the abbreviation for a format, a saving and a letter.
func Abbr(format string, save int, letter string) (string, api.Errno) {
	// A letter may also be a hyphen, but that is an abbreviation anyway.
	if !isFormat(format) || !rule.IsAbbr(letter) {
		return "", api.ErrSyntax
	}
	if !isSave(save) {
		return "", api.ErrArg
	}
	abbr := expand(format, save, letter)
	if len(abbr) > api.MaxAbbr {
		return "", api.ErrLarge
	}
	if abbr == "" {
		return "", api.ErrForm
	}
	// It may be a part of the format, or the letter.
	return strings.Clone(abbr), api.OK
}

// isFormat reports whether s is a format. The parts of a format are
// abbreviations, which contain neither of the two marks: a mark too many
// remains in a part.
func isFormat(s string) bool {
	if len(s) > api.MaxFormat {
		return false
	}
	if first, second, found := strings.Cut(s, separator); found {
		return rule.IsAbbr(first) && rule.IsAbbr(second)
	}
	return s == letterMark || rule.IsAbbr(strings.Replace(s, letterMark, "", 1))
}

// expand returns what a format yields, however long it is.
func expand(format string, save int, letter string) string {
	if first, second, found := strings.Cut(format, separator); found {
		if save == 0 {
			return first
		}
		return second
	}
	if letter == noLetter {
		letter = ""
	}
	return strings.Replace(format, letterMark, letter, 1)
}

func isSave(n int) bool { return n >= 0 && n <= api.MaxSave }
