package text

import (
	"math"
	"math/rand"
	"slices"
	"strconv"
	"strings"
	"testing"
	"unicode/utf8"

	"tidemark/api"
)

// odd are runes, and bytes that are none, that stand in no key and in no value.
var odd = []string{"\x00", "\n", "\t", "\x1f", "\x7f", "\uFFFD", "\xff", "\xc3", "\xa9", "\xed\xa0\x80", "\xf4\x90\x80\x80", "\xc0\xa0", "\xe2\x82"}

// even are runes that stand in both.
var even = []string{" ", "!", "~", "a", "Z", "0", "\u0080", "é", "\uFFFC", "\uFFFE", "\uFFFF", "€", "😀", "\U0010FFFF", "\"", ":", "\u00a0"}

// P2.1
func TestKeysAndValuesArePlainRunes(t *testing.T) {
	kinds := []struct {
		name  string
		is    func(string) api.Errno
		least int
		most  int
		no    api.Errno
	}{
		{"key", Key, 1, 24, api.ErrKey},
		{"value", Value, 0, 48, api.ErrValue},
	}
	for _, k := range kinds {
		for _, r := range even {
			for n := range 60 {
				want := api.OK
				if n < k.least || n > k.most {
					want = k.no
				}
				if got := k.is(strings.Repeat(r, n)); got != want {
					t.Errorf("%s of %d %q: %d, not %d", k.name, n, r, got, want)
				}
			}
		}
		for _, r := range odd {
			for _, s := range []string{r, "a" + r, r + "a", "é" + r + "é", strings.Repeat("a", k.most-1) + r} {
				if got := k.is(s); got != k.no {
					t.Errorf("%s %q: %d", k.name, s, got)
				}
			}
		}
	}
}

// P2.1
func TestEachRuneByItself(t *testing.T) {
	for r := rune(0); r <= utf8.MaxRune; r++ {
		if !utf8.ValidRune(r) {
			continue
		}
		s := string(r)
		plain := r >= 32 && r != 127 && r != 0xFFFD
		letter := r >= 97 && r <= 122
		if (Key(s) == api.OK) != plain || (Value(s) == api.OK) != plain || (Name(s) == api.OK) != letter {
			t.Fatalf("%q: %d %d %d", s, Key(s), Value(s), Name(s))
		}
	}
	for x := 128; x < 256; x++ {
		s := string([]byte{byte(x)})
		if Key(s) != api.ErrKey || Value(s) != api.ErrValue || Name(s) != api.ErrField {
			t.Fatalf("%q", s)
		}
	}
}

// P2.1
func TestNamesAreLetters(t *testing.T) {
	for _, s := range []string{"a", "z", "abc", "abcdefgh", "zzzzzzzz"} {
		if e := Name(s); e != api.OK {
			t.Errorf("%q: %d", s, e)
		}
	}
	for _, s := range []string{"", "abcdefghi", "A", "aB", "a1", "a b", " a", "a ", "`", "{", "é", "a\xff", "a\x00", "a:"} {
		if e := Name(s); e != api.ErrField {
			t.Errorf("%q: %d", s, e)
		}
	}
}

// P2.2
func TestPartsAreStretches(t *testing.T) {
	for _, c := range []struct {
		s    string
		by   rune
		want []string
	}{
		{"a,,b", ',', []string{"a", "", "b"}},
		{"", ',', []string{""}},
		{"abc", ',', []string{"abc"}},
		{",", ',', []string{"", ""}},
		{",a,", ',', []string{"", "a", ""}},
		{"aéb€c", 'é', []string{"a", "b€c"}},
		{"aéb€c", '€', []string{"aéb", "c"}},
		{"x😀😀y", '😀', []string{"x", "", "y"}},
		{"a\xffb\uFFFDc\xe2\x82", utf8.RuneError, []string{"a", "b", "c", "", ""}},
		{"\xff", utf8.RuneError, []string{"", ""}},
		{"\uFFFD\xff", utf8.RuneError, []string{"", "", ""}},
		{"a\xff,b", ',', []string{"a\xff", "b"}},
		{"a\xc3\xa9b", 0xa9, []string{"aéb"}},
		{"a\xa9b", 0xa9, []string{"a\xa9b"}},
		{"a\x00b", 0, []string{"a", "b"}},
		{"a\xffb", -1, []string{"a\xffb"}},
		{"a\xed\xa0\x80b", 0xd800, []string{"a\xed\xa0\x80b"}},
		{"abc", math.MaxInt32, []string{"abc"}},
		{"abc", math.MinInt32, []string{"abc"}},
	} {
		if got := Parts(c.s, c.by); !slices.Equal(got, c.want) {
			t.Errorf("of %q by %q: %q, not %q", c.s, c.by, got, c.want)
		}
	}
}

// Two answers are two lists.
func TestPartsAreNewMemory(t *testing.T) {
	a, b := Parts("a,b", ','), Parts("a,b", ',')
	all := a[:cap(a)]
	for i := range all {
		all[i] = "x"
	}
	if !slices.Equal(b, []string{"a", "b"}) || !slices.Equal(Parts("a,b", ','), []string{"a", "b"}) {
		t.Error(b)
	}
}

// P2.2
func TestFieldIsTheFirstOfItsName(t *testing.T) {
	for _, c := range []struct {
		value, name, want string
		ok                bool
	}{
		{"a:1 b:2 a:3", "a", "1", true},
		{"a:1 b:2 a:3", "b", "2", true},
		{"a:1 b:2 a:3", "c", "", false},
		{"a b:x:y", "b", "x:y", true},
		{"a", "a", "", false},
		{"a a:", "a", "", true},
		{"a:", "a", "", true},
		{"a::", "a", ":", true},
		{"", "a", "", false},
		{"", "", "", false},
		{":x", "", "x", true},
		{"  :", "", "", true},
		{"a:1", "", "", false},
		{"a:b:1", "a:b", "", false},
		{"a b:1", "a b", "", false},
		{"aa:1 a:2", "a", "2", true},
		{"a:1", "aa", "", false},
		{"ba:1", "a", "", false},
		{"A:1", "a", "", false},
		{"  a:1  ", "a", "1", true},
		{"a:1\tb:2", "a", "1\tb:2", true},
		{"é:ü a:é", "é", "ü", true},
		{"\xff:1 a:\xff", "a", "\xff", true},
		{"\xff:1", "\xff", "1", true},
		{"\xff:1", "\uFFFD", "", false},
	} {
		if got, ok := Field(c.value, c.name); got != c.want || ok != c.ok {
			t.Errorf("%q of %q: %q %t", c.name, c.value, got, ok)
		}
	}
}

// P2.2
func TestBeginsIsByBytes(t *testing.T) {
	for _, c := range []struct {
		s, front string
		want     bool
	}{
		{"", "", true}, {"a", "", true}, {"abc", "ab", true}, {"abc", "abc", true}, {"abc", "abcd", false},
		{"abc", "b", false}, {"", "a", false}, {"é", "\xc3", true}, {"\xff", "\xfe", false}, {"Ab", "a", false},
	} {
		if got := Begins(c.s, c.front); got != c.want {
			t.Errorf("%q, %q: %t", c.s, c.front, got)
		}
	}
}

// P2.3
func TestNumbersHaveOneForm(t *testing.T) {
	for s, want := range map[string]int64{
		"0": 0, "7": 7, "-7": -7, "10": 10, "-10": -10, "-1": -1, "1000000000000000000": 1e18,
		"9223372036854775807": math.MaxInt64, "-9223372036854775807": -math.MaxInt64, "-9223372036854775808": math.MinInt64,
	} {
		if n, e := Number(s); n != want || e != api.OK {
			t.Errorf("%q: %d, %d", s, n, e)
		}
	}
	for _, s := range []string{
		"", "-", "-0", "--1", "+1", "00", "07", "-07", "01", "1-", "1 ", " 1", "1.0", "1e3", "0x1", "a", "1a", "a1", "1_0",
		"12345678901234567890", "-12345678901234567890", "10000000000000000000", "00000000000000000001", "18446744073709551617", "18446744073709551616",
		"１", "1\xff", "\xff", "1\x00", "٣", "/", ":", "1/", "1:", strings.Repeat("9", 100),
	} {
		if n, e := Number(s); n != 0 || e != api.ErrNumber {
			t.Errorf("%q: %d, %d", s, n, e)
		}
	}
	for _, s := range []string{"9223372036854775808", "-9223372036854775809", "9999999999999999999", "-9999999999999999999", "9300000000000000000"} {
		if n, e := Number(s); n != 0 || e != api.ErrRange {
			t.Errorf("%q: %d, %d", s, n, e)
		}
	}
}

// P2.4
func TestPartsJoinedAreTheText(t *testing.T) {
	r := rand.New(rand.NewSource(1))
	pieces := append(append([]string{",", " ", "\x00", "\x7e", ":"}, odd...), even...)
	for range 20000 {
		var b strings.Builder
		for range r.Intn(12) {
			b.WriteString(pieces[r.Intn(len(pieces))])
		}
		s, by := b.String(), rune(r.Intn(128))
		if r.Intn(2) == 0 {
			by = []rune{',', ' ', 0, 'a', 127}[r.Intn(5)]
		}
		l := Parts(s, by)
		if got := strings.Join(l, string(by)); got != s {
			t.Fatalf("%q by %q: %q", s, by, got)
		}
		for _, p := range l {
			if strings.ContainsRune(p, by) {
				t.Fatalf("%q by %q: %q", s, by, p)
			}
		}
	}
}

// P2.5
func TestValuesHaveTheFieldsOfWhichTheyAreMade(t *testing.T) {
	names := []string{"a", "b", "ab", "ba", "aa", "abcdefgh", "z"}
	texts := []string{"", "1", "a", "a:1", ":", "::", "é", "b:2"}
	r := rand.New(rand.NewSource(2))
	for range 2000 {
		var fields, has []string
		order := r.Perm(len(names))[:1+r.Intn(len(names))]
		for _, i := range order {
			has = append(has, texts[r.Intn(len(texts))])
			fields = append(fields, names[i]+":"+has[len(has)-1])
		}
		value := strings.Join(fields, " ")
		for j, i := range order {
			if got, ok := Field(value, names[i]); !ok || got != has[j] {
				t.Fatalf("%q of %q: %q %t", names[i], value, got, ok)
			}
		}
	}
}

// P2.6
func TestNumberHasOneText(t *testing.T) {
	r := rand.New(rand.NewSource(3))
	signs := []string{"0", "1", "9", "-", "+", "5", " "}
	read := 0
	check := func(s string) {
		n, e := Number(s)
		if e != api.OK {
			return
		}
		read++
		if got := strconv.FormatInt(n, 10); got != s {
			t.Fatalf("%q is read as %s", s, got)
		}
	}
	for range 100000 {
		s := ""
		for range r.Intn(21) {
			s += signs[r.Intn(len(signs))]
		}
		check(s)
	}
	for range 10000 {
		n := int64(r.Uint64()) >> r.Intn(64)
		s := strconv.FormatInt(n, 10)
		if got, e := Number(s); got != n || e != api.OK {
			t.Fatalf("%s: %d, %d", s, got, e)
		}
		check(s)
		check("0" + s)
	}
	if read < 10000 {
		t.Errorf("only %d were read", read)
	}
}

// P2.7
func TestKeysAndValuesAreUTF8OfSoManyBytes(t *testing.T) {
	wide := "\U0010FFFF"
	if Key(strings.Repeat(wide, 24)) != api.OK || Value(strings.Repeat(wide, 48)) != api.OK {
		t.Error("the longest ones")
	}
	r := rand.New(rand.NewSource(4))
	pieces := append(slices.Clone(even), "\xf0\x9f", "\x98\x80", "\xe2", "\x82\xac")
	keys := 0
	for range 50000 {
		var b strings.Builder
		for range r.Intn(50) {
			b.WriteString(pieces[r.Intn(len(pieces))])
		}
		s := b.String()
		if Key(s) == api.OK {
			keys++
			if len(s) > 96 || !utf8.ValidString(s) {
				t.Fatalf("key %q", s)
			}
		}
		if Value(s) == api.OK && (len(s) > 192 || !utf8.ValidString(s)) {
			t.Fatalf("value %q", s)
		}
	}
	if keys == 0 {
		t.Error("no key at all")
	}
}
