package lang

import (
	"strconv"
	"strings"
	"unicode/utf8"

	"tidemark/api"
)

const (
	blank = ' '
	quote = '"'
	back  = '\\'
	signs = "()=^<>,"
	// mostHex is how many digits the number of a rune in a text in quotes has at most.
	mostHex = 6
)

func letter(r rune) bool { return r >= 'a' && r <= 'z' }

func digit(r rune) bool { return r >= '0' && r <= '9' }

func hex(r rune) bool { return digit(r) || r >= 'a' && r <= 'f' }

// span is how many bytes the first runes of a text have that may stand there.
func span(s string, may func(rune) bool) int {
	for i, r := range s {
		if !may(r) {
			return i
		}
	}
	return len(s)
}

// Quote is a text in quotes.
func Quote(s string) string {
	var b strings.Builder
	b.WriteByte(quote)
	for _, r := range s {
		switch {
		case r == quote || r == back:
			b.WriteByte(back)
			b.WriteRune(r)
		case r < blank || r == 127 || r == utf8.RuneError:
			b.WriteString(`\u{` + strconv.FormatInt(int64(r), 16) + "}")
		default:
			b.WriteRune(r)
		}
	}
	b.WriteByte(quote)
	return b.String()
}

// Tokens is a text's tokens; or where something stands that is none, and why.
func Tokens(s string) ([]api.Token, int, api.Errno) {
	var l []api.Token
	at := 0
	for at < len(s) {
		if s[at] == blank {
			at++
			continue
		}
		t, size, e := first(s[at:])
		if e != api.OK {
			return nil, at, e
		}
		t.At = at
		l = append(l, t)
		at += size
	}
	return l, 0, api.OK
}

// first is the token with which a text begins, and how many bytes it has.
func first(s string) (api.Token, int, api.Errno) {
	kind, size := 0, 0
	switch r := rune(s[0]); {
	case r == quote:
		return inQuotes(s)
	case letter(r):
		kind, size = api.TWord, span(s, letter)
	case digit(r):
		kind, size = api.TNum, span(s, digit)
	case r == '-' && span(s[1:], digit) > 0:
		kind, size = api.TNum, 1+span(s[1:], digit)
	case strings.ContainsRune(signs, r):
		kind, size = api.TSign, 1
	default:
		return api.Token{}, 0, api.ErrToken
	}
	return api.Token{Kind: kind, Text: s[:size]}, size, api.OK
}

// inQuotes is the text in quotes with which a text begins, and how many bytes it has.
func inQuotes(s string) (api.Token, int, api.Errno) {
	var b strings.Builder
	for at := 1; at < len(s); {
		r, size := utf8.DecodeRuneInString(s[at:])
		switch {
		case r == quote:
			return api.Token{Kind: api.TText, Text: b.String()}, at + 1, api.OK
		case r == back:
			r, size = meant(s[at:])
		case r == utf8.RuneError && size == 1:
			size = 0
		}
		if size == 0 {
			break
		}
		b.WriteRune(r)
		at += size
	}
	return api.Token{}, 0, api.ErrQuote
}

// meant is the rune that a \ and what stands behind it mean, and how many bytes these have; 0: they mean none.
func meant(s string) (rune, int) {
	switch {
	case strings.HasPrefix(s, `\"`):
		return quote, 2
	case strings.HasPrefix(s, `\\`):
		return back, 2
	}
	rest, ok := strings.CutPrefix(s, `\u{`)
	n := span(rest, hex)
	if !ok || n < 1 || n > mostHex || !strings.HasPrefix(rest[n:], "}") {
		return 0, 0
	}
	code, _ := strconv.ParseInt(rest[:n], 16, 32)
	if !utf8.ValidRune(rune(code)) {
		return 0, 0
	}
	return rune(code), len(`\u{}`) + n
}
