package lang

import (
	"math/rand"
	"slices"
	"strings"
	"testing"
	"unicode/utf8"

	"tidemark/api"
)

// P8.1
func TestQuoteByRunes(t *testing.T) {
	for s, want := range map[string]string{
		"": `""`, "abc": `"abc"`, `a"b`: `"a\"b"`, `\`: `"\\"`, `\"`: `"\\\""`, "\x00": `"\u{0}"`, "\n\t": `"\u{a}\u{9}"`, "\x1f ": `"\u{1f} "`,
		"~\x7f\u0080": "\"~\\u{7f}\u0080\"", "\uFFFD": `"\u{fffd}"`, "\xff": `"\u{fffd}"`, "é\xc3": `"é\u{fffd}"`, "\xe2\x82": `"\u{fffd}\u{fffd}"`, "\xed\xa0\x80": `"\u{fffd}\u{fffd}\u{fffd}"`,
		"€😀\uFFFC\uFFFE\U0010FFFF": "\"€😀\uFFFC\uFFFE\U0010FFFF\"", "'`(){}": "\"'`(){}\"",
	} {
		if got := Quote(s); got != want {
			t.Errorf("%q: %s, not %s", s, got, want)
		}
	}
}

// P8.1
func TestTokensOfAllKinds(t *testing.T) {
	word, text, num, sign := api.TWord, api.TText, api.TNum, api.TSign
	for s, want := range map[string][]api.Token{
		"": nil, "   ": nil,
		"ab cd":   {{Kind: word, Text: "ab"}, {Kind: word, Text: "cd", At: 3}},
		"a1b":     {{Kind: word, Text: "a"}, {Kind: num, Text: "1", At: 1}, {Kind: word, Text: "b", At: 2}},
		" 007":    {{Kind: num, Text: "007", At: 1}},
		"-0-12 3": {{Kind: num, Text: "-0"}, {Kind: num, Text: "-12", At: 2}, {Kind: num, Text: "3", At: 6}},
		"1-2":     {{Kind: num, Text: "1"}, {Kind: num, Text: "-2", At: 1}},
		"()=^<>,": {{Kind: sign, Text: "("}, {Kind: sign, Text: ")", At: 1}, {Kind: sign, Text: "=", At: 2}, {Kind: sign, Text: "^", At: 3}, {Kind: sign, Text: "<", At: 4}, {Kind: sign, Text: ">", At: 5}, {Kind: sign, Text: ",", At: 6}},
		`""""`:    {{Kind: text}, {Kind: text, At: 2}},
		`a"é b"c`: {{Kind: word, Text: "a"}, {Kind: text, Text: "é b", At: 1}, {Kind: word, Text: "c", At: 7}},
		`"\"\\"`:  {{Kind: text, Text: `"\`}},
		`"\u{41}\u{0}\u{00e9}\u{10ffff}\u{d7ff}\u{e000}\u{00000a}\u{fffd}"`: {{Kind: text, Text: "A\x00é\U0010FFFF\uD7FF\uE000\n\uFFFD"}},
		"\"\x00\n\t\x7f\uFFFD\"":  {{Kind: text, Text: "\x00\n\t\x7f\uFFFD"}},
		`"(a = b) \\" , "u{41}}"`: {{Kind: text, Text: `(a = b) \`}, {Kind: sign, Text: ",", At: 13}, {Kind: text, Text: "u{41}}", At: 15}},
	} {
		if got, at, e := Tokens(s); !slices.Equal(got, want) || at != 0 || e != api.OK {
			t.Errorf("%q: %v %d %d", s, got, at, e)
		}
	}
}

// P8.1
func TestTokensRefuse(t *testing.T) {
	for s, want := range map[string]struct {
		at int
		e  api.Errno
	}{
		"A": {0, api.ErrToken}, "a B": {2, api.ErrToken}, "aB": {1, api.ErrToken}, "-": {0, api.ErrToken}, "--1": {0, api.ErrToken}, "1-": {1, api.ErrToken}, "- 1": {0, api.ErrToken}, "-a": {0, api.ErrToken},
		"a\tb": {1, api.ErrToken}, "\n": {0, api.ErrToken}, "é": {0, api.ErrToken}, "a \xff": {2, api.ErrToken}, "\u00a0": {0, api.ErrToken}, ".": {0, api.ErrToken}, "+1": {0, api.ErrToken}, "a[": {1, api.ErrToken},
		"`": {0, api.ErrToken}, "{": {0, api.ErrToken}, "/": {0, api.ErrToken}, ":": {0, api.ErrToken}, "'": {0, api.ErrToken}, "\\": {0, api.ErrToken}, "１": {0, api.ErrToken}, "ａ": {0, api.ErrToken}, "\xbd": {0, api.ErrToken}, "\xa8": {0, api.ErrToken},
		`"`: {0, api.ErrQuote}, `a "`: {2, api.ErrQuote}, `"abc`: {0, api.ErrQuote}, `"" "`: {3, api.ErrQuote}, `"\`: {0, api.ErrQuote}, `"\"`: {0, api.ErrQuote}, `"\\\"`: {0, api.ErrQuote}, `"\a"`: {0, api.ErrQuote}, `"\ "`: {0, api.ErrQuote}, `"\'"`: {0, api.ErrQuote}, `"\n"`: {0, api.ErrQuote},
		`"\u"`: {0, api.ErrQuote}, `"\u{`: {0, api.ErrQuote}, `"\u{"`: {0, api.ErrQuote}, `"\u{}"`: {0, api.ErrQuote}, `"\u{41"`: {0, api.ErrQuote}, `"\u41"`: {0, api.ErrQuote}, `"\u{4g}"`: {0, api.ErrQuote}, `"\u{4A}"`: {0, api.ErrQuote}, `"\u{A}"`: {0, api.ErrQuote}, `"\u{-1}"`: {0, api.ErrQuote}, `"\u{+1}"`: {0, api.ErrQuote}, `"\u{ 41}"`: {0, api.ErrQuote}, `"\u{0x4}"`: {0, api.ErrQuote}, `"\U{41}"`: {0, api.ErrQuote}, `"\u{4_1}"`: {0, api.ErrQuote},
		`"\u{0000041}"`: {0, api.ErrQuote}, `"\u{110000}"`: {0, api.ErrQuote}, `"\u{ffffff}"`: {0, api.ErrQuote}, `"\u{d800}"`: {0, api.ErrQuote}, `"\u{dfff}"`: {0, api.ErrQuote}, `"\u{00dbff}"`: {0, api.ErrQuote}, `"\u{é}"`: {0, api.ErrQuote},
		"\"\xff\"": {0, api.ErrQuote}, "\"a\xc3\"": {0, api.ErrQuote}, "\"\xed\xa0\x80\"": {0, api.ErrQuote}, "\"\\\xff\"": {0, api.ErrQuote}, "\"\\u{41\xff}\"": {0, api.ErrQuote}, "\"\xff": {0, api.ErrQuote},
		"\"a\"\xff\"": {3, api.ErrToken}, `A "`: {0, api.ErrToken}, `" A`: {0, api.ErrQuote}, `a = "1" é`: {8, api.ErrToken},
	} {
		if got, at, e := Tokens(s); len(got) != 0 || at != want.at || e != want.e {
			t.Errorf("%q: %v %d %d", s, got, at, e)
		}
		if src, at, e := Read(s); src != nil || at != want.at || e != want.e {
			t.Errorf("Read %q: %d %d", s, at, e)
		}
		if f, at, e := Parse(s); !alike(f, api.Filter{}) || at != want.at || e != want.e {
			t.Errorf("Parse %q: %d %d", s, at, e)
		}
	}
}

// P8.1
func TestTokensAreTheModels(t *testing.T) {
	r := rand.New(rand.NewSource(1))
	pieces := []string{"a", "z", "all", "0", "9", "-", " ", "(", ")", "=", "^", "<", ">", ",", `"`, `"`, `"`, `\`, `\"`, `\\`, `\u{`, "}", "41", "d800", "10ffff", "110000", "0000000", "f", "é", "\xff", "\xc3", "\uFFFD", "A", "\n", "😀", "\x7f"}
	good := 0
	for range 100000 {
		s := ""
		for range r.Intn(8) {
			s += one(r, pieces...)
		}
		if r.Intn(2) == 0 {
			s += `"`
		}
		got, at, e := Tokens(s)
		want, wantAt, wantE := modelTokens(s)
		if !slices.Equal(got, want) || at != wantAt || e != wantE {
			t.Fatalf("%q: %v %d %d, not %v %d %d", s, got, at, e, want, wantAt, wantE)
		}
		if e == api.OK {
			good++
		}
	}
	if good < 5000 {
		t.Error(good)
	}
}

// P8.7, P8.1
func TestTokensOfAQuote(t *testing.T) {
	for c := rune(0); c <= utf8.MaxRune; c++ {
		s := string(c)
		if c > 0x3000 && c%97 != 0 && c < 0xd000 || c > 0xFFFF && c%1009 != 0 {
			continue
		}
		if l, at, e := Tokens(Quote(s)); e != api.OK || at != 0 || len(l) != 1 || l[0] != (api.Token{Kind: api.TText, Text: s}) {
			t.Fatalf("%q: %v %d %d", s, l, at, e)
		}
	}
	r := rand.New(rand.NewSource(2))
	pieces := []string{"a", `"`, `\`, `\u{41}`, "\x00", "\x1f", "\x7f", "\xff", "\xc3", "\uFFFD", "é", "😀", " ", "}"}
	for range 20000 {
		s := ""
		for range r.Intn(10) {
			s += one(r, pieces...)
		}
		if q := Quote(s); q != modelQuote(s) {
			t.Fatalf("%q: %s", s, q)
		}
		want := strings.ToValidUTF8(s, "\uFFFD")
		l, _, e := Tokens(" " + Quote(s))
		if e != api.OK || len(l) != 1 || l[0].Kind != api.TText || l[0].At != 1 {
			t.Fatalf("%q: %v %d", s, l, e)
		}
		if utf8.ValidString(s) && l[0].Text != want {
			t.Fatalf("%q: %q", s, l[0].Text)
		}
	}
}

// P8.2
func TestSourceGivesOneByOne(t *testing.T) {
	s, at, e := Read(`all(7 "x" `)
	if s == nil || at != 0 || e != api.OK {
		t.Fatal(at, e)
	}
	want := []api.Token{{Kind: api.TWord, Text: "all"}, {Kind: api.TSign, Text: "(", At: 3}, {Kind: api.TNum, Text: "7", At: 4}, {Kind: api.TText, Text: "x", At: 6}}
	for _, w := range want {
		if s.Peek() != w || s.Peek() != w {
			t.Fatal(s.Peek(), w)
		}
		for kind := -1; kind < 6; kind++ {
			for _, text := range []string{w.Text, "", "all", "("} {
				if (kind != w.Kind || text != w.Text) && s.Is(kind, text) {
					t.Fatal(kind, text, w)
				}
			}
		}
		if s.Peek() != w || s.Take() != w {
			t.Fatal(w)
		}
	}
	end := api.Token{At: 10}
	for range 3 {
		if s.Peek() != end || s.Take() != end || s.Is(api.TEnd, "") || s.Is(api.TText, "") {
			t.Fatal(s.Peek())
		}
	}
}

// P8.2
func TestIsTakes(t *testing.T) {
	s, _, _ := Read(`all "all" 7 7 ""`)
	if s.Is(api.TText, "all") || !s.Is(api.TWord, "all") || s.Is(api.TWord, "all") || !s.Is(api.TText, "all") || !s.Is(api.TNum, "7") || s.Peek().At != 12 || !s.Is(api.TNum, "7") || s.Is(api.TEnd, "") || !s.Is(api.TText, "") || s.Peek() != (api.Token{At: 16}) {
		t.Error(s.Peek())
	}
	for _, text := range []string{"", "   "} {
		s, at, e := Read(text)
		if e != api.OK || at != 0 || s.Peek() != (api.Token{At: len(text)}) || s.Is(api.TEnd, "") || s.Take() != (api.Token{At: len(text)}) {
			t.Errorf("%q", text)
		}
	}
}

// P8.2
func TestSourceOfNobody(t *testing.T) {
	for _, s := range []*Source{nil, {}} {
		f, at, e := s.Filter()
		if s.Peek() != (api.Token{}) || s.Take() != (api.Token{}) || s.Is(api.TEnd, "") || s.Is(api.TWord, "all") || !alike(f, api.Filter{}) || at != 0 || e != api.ErrNil {
			t.Error(s == nil, at, e)
		}
	}
}

// The tokens that are told, and those of a source, are not the same memory.
func TestTokensAreNewMemory(t *testing.T) {
	text := `all and put or put`
	a, _, _ := Tokens(text)
	b, _, _ := Tokens(text)
	for i := range a[:cap(a)] {
		a[:cap(a)][i] = api.Token{Kind: 9}
	}
	if len(b) != 5 || b[0].Text != "all" || b[4] != (api.Token{Kind: api.TWord, Text: "put", At: 15}) {
		t.Error(b)
	}
}
