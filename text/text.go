// Package text is layer 2: see ../../shared/doc/02-text.md.
package text

import (
	"strings"
	"unicode/utf8"

	"tidemark/api"
)

const (
	blank = ' '
	colon = ":"
	// mostDigits is how many digits a number has at most: of so many none is beyond 64 bits, but one more may be.
	mostDigits = 19
)

// plain tells whether a rune may stand in keys and values.
func plain(r rune) bool { return r >= 32 && r != 127 && r != utf8.RuneError }

// letter tells whether a rune may stand in a field's name.
func letter(r rune) bool { return r >= 'a' && r <= 'z' }

// madeOf tells whether a text is least to most runes, each of which may stand there.
func madeOf(s string, least, most int, may func(rune) bool) bool {
	n := 0
	for _, r := range s {
		n++
		if n > most || !may(r) {
			return false
		}
	}
	return n >= least
}

// Key tells whether a text is a key.
func Key(s string) api.Errno {
	if !madeOf(s, 1, api.MaxKey, plain) {
		return api.ErrKey
	}
	return api.OK
}

// Value tells whether a text is a value.
func Value(s string) api.Errno {
	if !madeOf(s, 0, api.MaxValue, plain) {
		return api.ErrValue
	}
	return api.OK
}

// Name tells whether a text is a field's name.
func Name(s string) api.Errno {
	if !madeOf(s, 1, api.MaxField, letter) {
		return api.ErrField
	}
	return api.OK
}

// Parts is a text's stretches between runes of a kind.
func Parts(s string, by rune) []string {
	var l []string
	from := 0
	for i, r := range s {
		if r != by {
			continue
		}
		l = append(l, s[from:i])
		// A byte that is no UTF-8 is U+FFFD of one byte, so the rune alone does not tell where the next stretch begins.
		_, width := utf8.DecodeRuneInString(s[i:])
		from = i + width
	}
	return append(l, s[from:])
}

// Field is what a value has under a name.
func Field(value, name string) (string, bool) {
	for _, part := range Parts(value, blank) {
		if front, rest, ok := strings.Cut(part, colon); ok && front == name {
			return rest, true
		}
	}
	return "", false
}

// digits tells whether a text is digits in the one form that a number has.
func digits(s string) bool {
	if s == "" || len(s) > mostDigits || len(s) > 1 && s[0] == '0' {
		return false
	}
	for _, r := range s {
		if r < '0' || r > '9' {
			return false
		}
	}
	return true
}

// Number is the number that a text is.
func Number(s string) (int64, api.Errno) {
	size, minus := strings.CutPrefix(s, "-")
	if !digits(size) || minus && size == "0" {
		return 0, api.ErrNumber
	}
	var n uint64
	for _, r := range size {
		n = n*10 + uint64(r-'0')
	}
	switch {
	case minus && n > 1<<63, !minus && n >= 1<<63:
		return 0, api.ErrRange
	case minus:
		return int64(-n), api.OK
	}
	return int64(n), api.OK
}

// Begins tells whether a text begins with another one.
func Begins(s, front string) bool { return strings.HasPrefix(s, front) }
