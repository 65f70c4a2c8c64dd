package lang

import (
	"math/rand"
	"strings"
	"testing"

	"tidemark/api"
	"tidemark/filter"
)

func prefix(s string) api.Filter         { return api.Filter{Kind: api.FPrefix, Text: s} }
func equal(name, text string) api.Filter { return api.Filter{Kind: api.FEqual, Name: name, Text: text} }
func inv(f api.Filter) api.Filter        { return api.Filter{Kind: api.FNot, Kids: []api.Filter{f}} }
func and(l ...api.Filter) api.Filter     { return api.Filter{Kind: api.FAnd, Kids: l} }
func or(l ...api.Filter) api.Filter      { return api.Filter{Kind: api.FOr, Kids: l} }

var all0, put0 = api.Filter{}, api.Filter{Kind: api.FPut}

// P8.3
func TestParseReads(t *testing.T) {
	for s, want := range map[string]api.Filter{
		"all": all0, "put": put0, " all ": all0, "(all)": all0, "((put))": put0, `key ^ "a"`: prefix("a"), `key^"a\u{e9}"`: prefix("aé"), `n = "5"`: equal("n", "5"), `n=""`: equal("n", ""),
		`all = "x"`: equal("all", "x"), `put="x"`: equal("put", "x"), `key = "x"`: equal("key", "x"), `not = "x"`: equal("not", "x"), `any = "x"`: equal("any", "x"), `each = "x"`: equal("each", "x"), `and = "x"`: equal("and", "x"), `or = "x"`: equal("or", "x"),
		`not all`: inv(all0), `not not put`: inv(inv(put0)), `not not = "x"`: inv(equal("not", "x")), `not (all)`: inv(all0), `not(all and put)`: inv(and(all0, put0)), `not all and put`: and(inv(all0), put0), `not all or put`: or(inv(all0), put0),
		"any()": or(), "each ( )": and(), "any(all)": or(all0), "each(all)": and(all0), "any(all,put)": or(all0, put0), "each(all , put,all)": and(all0, put0, all0), "any(all or put)": or(or(all0, put0)), "any(all or put, all and put)": or(or(all0, put0), and(all0, put0)), "each(any(), each(), not any())": and(or(), and(), inv(or())),
		"all and put": and(all0, put0), "all or put": or(all0, put0), "all and put or all": or(and(all0, put0), all0), "all or put and all": or(all0, and(put0, all0)), "all and put and all or put or all and all": or(and(all0, put0, all0), put0, and(all0, all0)),
		"(all or put) and all": and(or(all0, put0), all0), "all and (put and all)": and(all0, and(put0, all0)), "all or (put or all)": or(all0, or(put0, all0)), "((all) or (put))": or(all0, put0), "(all and put) or all": or(and(all0, put0), all0),
		`and = "1" and and = "2" or or = "3"`: or(and(equal("and", "1"), equal("and", "2")), equal("or", "3")), `key ^ "a" and not n = "5"`: and(prefix("a"), inv(equal("n", "5"))),
	} {
		if got, at, e := Parse(s); !alike(got, want) || at != 0 || e != api.OK {
			t.Errorf("%s: %v %d %d", s, got, at, e)
		}
	}
}

// P8.3
func TestParseRefuses(t *testing.T) {
	word, more := api.ErrWord, api.ErrMore
	for s, want := range map[string]struct {
		at int
		e  api.Errno
	}{
		"": {0, word}, "  ": {2, word}, ")": {0, word}, "(": {1, word}, "()": {1, word}, "7": {0, word}, `"a"`: {0, word}, "=": {0, word}, `(a = "1"`: {8, word}, "(all": {4, word}, "(all,put)": {4, word}, "(all put)": {5, word}, "((all)": {6, word},
		"foo": {3, word}, "foo ": {4, word}, "foo bar": {4, word}, "foo )": {4, word}, "foo (": {4, word}, "foo ^": {4, word}, "foo =": {5, word}, "foo = bar": {6, word}, "foo = 5": {6, word}, "foo = (": {6, word}, "and": {3, word}, "or all": {3, word}, "not": {3, word}, "not )": {4, word}, "not 7": {4, word}, "not and": {7, word},
		"key": {3, word}, `key "a"`: {4, word}, "key ^": {5, word}, "key ^ a": {6, word}, `key ^ = "a"`: {6, word}, "key and all": {4, word}, "any": {3, word}, "any all": {4, word}, "any(": {4, word}, "any(,": {4, word}, "any(,all)": {4, word}, "any(all": {7, word}, "any(all,": {8, word}, "any(all,)": {8, word}, "any(all put)": {8, word}, "each": {4, word}, "each)": {4, word}, "each(all)(": {9, more},
		"all and": {7, word}, "all and and": {11, word}, `all and = "x"`: {8, word}, "all or": {6, word}, "all or )": {7, word}, `all or = "1"`: {7, word}, "all and (": {9, word}, `n = "1" and`: {11, word},
		`a = "1" b`: {8, more}, "all)": {3, more}, "all all": {4, more}, "all,": {3, more}, "all 7": {4, more}, `all "x"`: {4, more}, `all = "1" "2"`: {10, more}, "all ^": {4, more}, "put not all": {4, more}, "(all) (all)": {6, more}, "all by n": {4, more}, "not all = put": {10, word}, "all < put": {4, more},
		`abcdefghi = "1"`: {0, api.ErrFilter}, `  all and abcdefghi = "1"`: {2, api.ErrFilter}, `key ^ ""`: {0, api.ErrFilter}, ` (key ^ "\u{a}")`: {1, api.ErrFilter}, `n = "\u{7f}" b`: {0, api.ErrFilter}, ` not not not not not not all all`: {1, api.ErrDeep}, ` ((key ^ "")`: {12, word}, `key ^ "` + strings.Repeat("x", 25) + `"`: {0, api.ErrFilter}, `key ^ "" and`: {12, word},
	} {
		if got, at, e := Parse(s); !alike(got, api.Filter{}) || at != want.at || e != want.e {
			t.Errorf("%s: %v %d %d, not %v", s, got, at, e, want)
		}
		if _, at, e := modelParse(s); at != want.at || e != want.e {
			t.Errorf("the model: %s: %d %d, not %v", s, at, e, want)
		}
	}
}

// P8.3
func TestFortyInOneAnother(t *testing.T) {
	deep, word, ok := api.ErrDeep, api.ErrWord, api.OK
	open := func(s string, n int) string { return strings.Repeat(s, n) }
	for i, c := range []struct {
		s  string
		at int
		e  api.Errno
	}{
		{open("(", 39) + "all" + open(")", 39), 0, ok}, {open("(", 40) + "all" + open(")", 40), 40, deep}, {open("(", 40), 40, deep}, {open("(", 39), 39, word}, {open("(", 40) + ")", 40, deep}, {open("(", 40) + "7", 40, deep}, {open("(", 5000), 40, deep},
		{open("(", 39) + "all", 42, word}, {open("(", 39) + "any()" + open(")", 39), 0, ok}, {open("(", 39) + "any(all)" + open(")", 39), 43, deep}, {open("(", 39) + "any(", 43, deep}, {open("(", 39) + "each(,", 44, deep}, {open("(", 39) + "any", 42, word},
		{open("(", 39) + `not = "1"` + open(")", 39), 0, ok}, {open("(", 39) + "not all", 43, deep}, {open("(", 39) + "not", 42, deep}, {open("(", 39) + "not )", 43, deep}, {open("(", 38) + "not all" + open(")", 38), 0, ok}, {open("(", 38) + "not(all)", 42, deep}, {open("(", 38) + "not not", 45, deep},
		{open("not ", 39) + "all", 0, deep}, {open("not ", 40) + "all", 160, deep}, {open("not ", 40), 160, deep}, {open("not ", 39), 156, word}, {open("not ", 39) + "all all", 0, deep}, {open("not ", 5) + "all", 0, ok}, {open("not ", 6) + "all", 0, deep},
		{open("any(", 39) + "all", 159, word}, {open("any(", 40), 160, deep}, {open("any(", 39) + ")" + open(")", 38), 0, deep}, {open("any(", 6) + open(")", 6), 0, ok}, {open("any(", 7) + open(")", 7), 0, deep},
		{open("(", 39) + "all and all or all" + open(")", 39) + " and " + open("(", 39) + "all" + open(")", 39), 0, ok}, {"all and all or " + open("(", 40) + "all", 55, deep}, {"any(all, " + open("(", 39), 48, deep}, {"any(all, " + open("(", 38), 47, word},
		{open("(", 39) + "all or " + open("(", 1) + "all", 47, deep},
	} {
		_, at, e := Parse(c.s)
		if at != c.at || e != c.e {
			t.Errorf("%d: %.60s: %d %d", i, c.s, at, e)
		}
		if _, at, e := modelParse(c.s); at != c.at || e != c.e {
			t.Errorf("%d: the model: %d %d", i, at, e)
		}
	}
	if _, at, e := Parse("all" + strings.Repeat(" and all", 22)); at != 0 || e != api.OK {
		t.Error("23 kids", at, e)
	}
	if _, at, e := Parse(" all" + strings.Repeat(" or all", 23)); at != 1 || e != api.ErrDeep {
		t.Error("24 kids", at, e)
	}
	if _, at, e := Parse("all" + strings.Repeat(" or all", 10000)); at != 0 || e != api.ErrDeep {
		t.Error("many kids", at, e)
	}
}

// anyTokens is a text of tokens, often one of a filter.
func anyTokens(r *rand.Rand) string {
	pieces := []string{"all", "put", "key ^ \"a\"", "n = \"1\"", "key", "not", "any(", "each(", "(", ")", ",", "and", "or", "=", "^", "\"a\"", "7", "foo", "abcdefghi", "abcdefghi = \"\"", "key ^ \"\"", "any()", "and =", "<", "by"}
	l := []string{}
	if r.Intn(2) == 0 {
		for range r.Intn(10) {
			l = append(l, one(r, pieces...))
		}
		return strings.Join(l, " ")
	}
	l = strings.Split(modelPrint(anyFilter(r, r.Intn(7))), " ")
	for range r.Intn(3) {
		i := r.Intn(len(l))
		switch r.Intn(3) {
		case 0:
			l[i] = one(r, pieces...)
		case 1:
			l[i] += " " + one(r, pieces...)
		case 2:
			l[i] = ""
		}
	}
	return strings.Join(l, one(r, " ", "  "))
}

// P8.3
func TestParseIsTheModels(t *testing.T) {
	r := rand.New(rand.NewSource(3))
	counts := map[api.Errno]int{}
	for range 100000 {
		s := anyTokens(r)
		got, at, e := Parse(s)
		want, wantAt, wantE := modelParse(s)
		if !alike(got, want) || at != wantAt || e != wantE {
			t.Fatalf("%s: %v %d %d, not %v %d %d", s, got, at, e, want, wantAt, wantE)
		}
		counts[e]++
	}
	for _, e := range []api.Errno{api.OK, api.ErrWord, api.ErrMore, api.ErrFilter, api.ErrDeep} {
		if counts[e] < 200 {
			t.Error(counts)
		}
	}
}

// P8.3: a filter is read as far as it goes; where none can be read, nothing is taken.
func TestFilterFromWhereTheSourceIs(t *testing.T) {
	r := rand.New(rand.NewSource(4))
	for range 30000 {
		text := anyTokens(r) + " " + anyTokens(r)
		s, _, e := Read(text)
		if e != api.OK {
			continue
		}
		l, _, _ := modelTokens(text)
		l = append(l, api.Token{At: len(text)})
		from := r.Intn(len(l))
		for range from {
			s.Take()
		}
		for range 3 {
			got, at, e := s.Filter()
			want, size, wantAt, wantE := modelFilter(l, from)
			if !alike(got, want) || at != wantAt || e != wantE {
				t.Fatalf("%s from %d: %v %d %d, not %v %d %d", text, from, got, at, e, want, wantAt, wantE)
			}
			from += size
			if s.Peek() != l[from] {
				t.Fatalf("%s: at %v, not %v", text, s.Peek(), l[from])
			}
		}
	}
}

// P8.4
func TestPrintByTheTable(t *testing.T) {
	for want, f := range map[string]api.Filter{
		"all": all0, "put": put0, `key ^ "a\"b"`: prefix(`a"b`), `n = "\\"`: equal("n", `\`), `n = ""`: equal("n", ""), "not all": inv(all0), "not not put": inv(inv(put0)),
		"each()": and(), "any()": or(), "each(all)": and(all0), "any(put)": or(put0), "each(any())": and(or()), "each(all and put)": and(and(all0, put0)), "any(all or put)": or(or(all0, put0)), "any(all and put)": or(and(all0, put0)),
		"all and put": and(all0, put0), "all or put or all": or(all0, put0, all0), "all and put or all": or(and(all0, put0), all0), "(all or put) and all": and(or(all0, put0), all0), "(all and put) and all": and(and(all0, put0), all0), "(all or put) or all": or(or(all0, put0), all0),
		"not (all and put)": inv(and(all0, put0)), "not (all or put)": inv(or(all0, put0)), "not each(all)": inv(and(all0)), "not any()": inv(or()), "not all and put": and(inv(all0), put0), "each(all) and any()": and(and(all0), or()), "any(all) or each()": or(or(all0), and()), "not (all and put) or all": or(inv(and(all0, put0)), all0),
		`and = "x" and not or = "y"`: and(equal("and", "x"), inv(equal("or", "y"))),
	} {
		if got, e := Print(f); got != want || e != api.OK {
			t.Errorf("%s, not %s: %d", got, want, e)
		}
	}
	for _, f := range []api.Filter{{Kind: 7}, prefix(""), inv(inv(inv(inv(inv(inv(all0)))))), and(make([]api.Filter, 24)...), {Kind: api.FNot}, equal("A", "")} {
		if got, e := Print(f); got != "" || e != filter.Check(f) || e == api.OK {
			t.Errorf("%v: %s %d", f, got, e)
		}
	}
}

// P8.4, P8.5
func TestParseOfPrint(t *testing.T) {
	r := rand.New(rand.NewSource(5))
	refused := 0
	for range 20000 {
		f := anyFilter(r, 1+r.Intn(7))
		s, e := Print(f)
		if e != filter.Check(f) || e != api.OK && s != "" {
			t.Fatalf("%v: %s %d", f, s, e)
		}
		if e != api.OK {
			refused++
			continue
		}
		if s != modelPrint(f) {
			t.Fatalf("%v: %s, not %s", f, s, modelPrint(f))
		}
		if got, at, e := Parse(s); !alike(got, f) || at != 0 || e != api.OK {
			t.Fatalf("%s: %v %d %d", s, got, at, e)
		}
	}
	if refused < 100 || refused > 10000 {
		t.Error(refused)
	}
}

// P8.6, P8.8
func TestSettledAndSurrounded(t *testing.T) {
	r := rand.New(rand.NewSource(6))
	read := 0
	for range 20000 {
		s := anyTokens(r)
		f, _, e := Parse(s)
		if e != api.OK {
			continue
		}
		read++
		printed, e := Print(f)
		g, _, e2 := Parse(printed)
		again, _ := Print(g)
		if e != api.OK || e2 != api.OK || !alike(f, g) || again != printed {
			t.Fatalf("%s: %s, %s", s, printed, again)
		}
		for _, other := range []string{"(" + s + ")", "( ( " + s + ") )", "  " + s + " ", spaced(s)} {
			if g, at, e := Parse(other); !alike(f, g) || at != 0 || e != api.OK {
				t.Fatalf("%s: %v %d %d", other, g, at, e)
			}
		}
	}
	if read < 3000 {
		t.Error(read)
	}
}

// spaced is a text with three blanks between each two tokens.
func spaced(s string) string {
	l, _, _ := modelTokens(s)
	out := ""
	for _, t := range l {
		if t.Kind == api.TText {
			t.Text = modelQuote(t.Text)
		}
		out += "   " + t.Text
	}
	return out
}

// Two filters of one text share no kids.
func TestParseIsNewMemory(t *testing.T) {
	text := "each(all, put, any(all, put, put)) and not (put and all)"
	f, _, _ := Parse(text)
	g, _, _ := Parse(text)
	want, _ := Print(g)
	spoil(&f)
	if got, _ := Print(g); got != want {
		t.Error(got)
	}
}

func spoil(f *api.Filter) {
	kids := f.Kids[:cap(f.Kids)]
	for i := range kids {
		spoil(&kids[i])
	}
	*f = prefix("spoilt")
}
