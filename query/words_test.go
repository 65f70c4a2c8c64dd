package query

import (
	"fmt"
	"math/rand"
	"strings"
	"testing"

	"tidemark/api"
)

// P16.4
func TestParseReads(t *testing.T) {
	for s, want := range map[string]api.Query{
		"keys": {}, " count ": {Kind: api.QCount}, "sum n": {Kind: api.QSum, Of: "n"}, "least abcdefgh": {Kind: api.QLeast, Of: "abcdefgh"}, "top   n": {Kind: api.QTop, Of: "n"}, "sum sum": {Kind: api.QSum, Of: "sum"}, "sum where": {Kind: api.QSum, Of: "where"}, "top by by down down": {Kind: api.QTop, Of: "by", By: "down", Down: true},
		"keys where all": {}, "keys where put": {Where: api.Filter{Kind: api.FPut}}, `count where key ^ "a" by g`: {Kind: api.QCount, Where: prefix("a"), By: "g"}, `keys where (n = "1" or put) and not all`: {Where: and(or(equal("n", "1"), api.Filter{Kind: api.FPut}), not(api.Filter{}))}, `keys where by = "x" by n`: {Where: equal("by", "x"), By: "n"}, `keys where where = "" and down = "1"by n down`: {Where: and(equal("where", ""), equal("down", "1")), By: "n", Down: true}, `keys where first="2"first 2`: {Where: equal("first", "2"), First: 2},
		"keys by n": {By: "n"}, "keys by by": {By: "by"}, "keys by n down": {By: "n", Down: true}, "keys by first first 1": {By: "first", First: 1}, "keys skip 1": {Skip: 1}, "keys first 1": {First: 1}, "keys skip 12 first 34": {Skip: 12, First: 34}, "keys skip 1099511627776 first 1099511627776": {Skip: most, First: most}, "keys by n skip 2": {By: "n", Skip: 2},
		`least m where n = "5" by g down skip 7 first 9`: {Kind: api.QLeast, Of: "m", Where: equal("n", "5"), By: "g", Down: true, Skip: 7, First: 9}, "count where any() by a": {Kind: api.QCount, Where: or(), By: "a"}, "keys where all skip 3": {Skip: 3}, "keys where(put)by n": {Where: api.Filter{Kind: api.FPut}, By: "n"},
	} {
		if q, at, e := Parse(s); !same(q, want) || at != 0 || e != api.OK {
			t.Errorf("%s: %v %d %d", s, q, at, e)
		}
		if q, at, e := modelParse(s); !same(q, want) || at != 0 || e != api.OK {
			t.Errorf("the model: %s: %v %d %d", s, q, at, e)
		}
	}
}

// P16.4
func TestParseRefuses(t *testing.T) {
	word, more, no := api.ErrWord, api.ErrMore, api.ErrQuery
	for s, want := range map[string]struct {
		at int
		e  api.Errno
	}{
		"": {0, word}, "  ": {2, word}, "key": {0, word}, "where all": {0, word}, `"keys"`: {0, word}, " 7": {1, word}, "(keys)": {0, word}, "keyscount": {0, word}, "Keys": {0, api.ErrToken}, "keys ?": {5, api.ErrToken}, "7 ?": {2, api.ErrToken}, `keys where key ^ "a`: {17, api.ErrQuote}, `keys "\x"`: {5, api.ErrQuote},
		"sum": {3, word}, "sum ": {4, word}, "least 5": {6, word}, `top "n"`: {4, word}, "top (": {4, word}, "sum where all": {10, more}, "sum n m": {6, more}, "keys n": {5, more}, "count n": {6, more}, "keys keys": {5, more}, "keys 5": {5, more}, "keys )": {5, more}, `keys "where"`: {5, more},
		"keys where": {10, word}, "keys where ": {11, word}, "keys where by n": {14, word}, "keys where )": {11, word}, "keys where all and": {18, word}, "keys where all all": {15, more}, "keys where all where all": {15, more}, `keys where key ^ ""`: {11, api.ErrFilter}, `keys where not not not not not not all by`: {11, api.ErrDeep}, `keys where abcdefghi = "1" by`: {11, api.ErrFilter}, "keys where " + strings.Repeat("(", 40): {51, api.ErrDeep}, `keys where n = "1" m`: {19, more},
		"keys by": {7, word}, "keys by 5": {8, word}, `keys by "n"`: {8, word}, "keys by =": {8, word}, "keys by n by m": {10, more}, "keys by n where all": {10, more}, "keys by n down down": {15, more}, "keys by n first 1 down": {18, more}, "keys by down down by": {18, more}, "keys by n skip 1 by m": {17, more},
		"keys skip": {9, word}, "keys skip n": {10, word}, `keys skip "1"`: {10, word}, "keys skip 0": {10, word}, "keys skip -1": {10, word}, "keys skip 01": {10, word}, "keys skip 1099511627777": {10, word}, "keys skip 9223372036854775808": {10, word}, "keys skip 99999999999999999999999": {10, word}, "keys skip first 1": {10, word}, "keys skip -0": {10, word}, "keys skip 1 skip 2": {12, more},
		"keys first": {10, word}, "keys first 0": {11, word}, "keys first -5": {11, word}, "keys first 007": {11, word}, "keys first 1099511627777": {11, word}, "keys first all": {11, word}, "keys first 1 skip 1": {13, more}, "keys first 1 first 1": {13, more}, "keys first 1 2": {13, more}, "keys first (": {11, word},
		"keys down": {0, no}, "  keys down skip 1": {0, no}, "keys by abcdefghi": {0, no}, "sum abcdefghi": {0, no}, "top n by abcdefghi down": {0, no}, "count where put down": {0, no}, "sum abcdefghi abc": {14, more}, "keys down by n": {10, more}, "sum abcdefghi first 0": {20, word},
	} {
		if q, at, e := Parse(s); !same(q, api.Query{}) || at != want.at || e != want.e {
			t.Errorf("%s: %v %d %d, not %v", s, q, at, e, want)
		}
		if _, at, e := modelParse(s); at != want.at || e != want.e {
			t.Errorf("the model: %s: %d %d, not %v", s, at, e, want)
		}
	}
}

// anyText is tokens, often those of a question.
func anyText(r *rand.Rand) string {
	pieces := []string{"keys", "count", "sum", "least", "top", "where", "by", "down", "skip", "first", "n", "abcdefghi", "all", "put", `key ^ "a"`, `n = "1"`, "not", "and", "or", "(", ")", ",", "1", "5", "0", "-1", "07", "1099511627776", "1099511627777", `"by"`, "=", "any()", `key ^ ""`, "A", `"`}
	l := strings.Split(modelPrint(anyQuery(r)), " ")
	if r.Intn(4) == 0 {
		l = nil
		for range r.Intn(9) {
			l = append(l, one(r, pieces[:len(pieces)-2]...))
		}
	}
	for range r.Intn(3) {
		if i := r.Intn(len(l) + 1); i < len(l) && r.Intn(2) == 0 {
			l[i] = one(r, pieces...)
		} else {
			l = append(l[:i:i], append([]string{one(r, pieces...)}, l[i:]...)...)
		}
	}
	return strings.Join(l, one(r, " ", "  "))
}

// P16.4
func TestParseIsTheModels(t *testing.T) {
	r := rand.New(rand.NewSource(5))
	told := map[api.Errno]int{}
	for range 60000 {
		s := anyText(r)
		q, at, e := Parse(s)
		want, wantAt, f := modelParse(s)
		if !same(q, want) || at != wantAt || e != f {
			t.Fatalf("%s: %v %d %d, not %v %d %d", s, q, at, e, want, wantAt, f)
		}
		told[e]++
	}
	for _, e := range []api.Errno{api.OK, api.ErrMore, api.ErrWord, api.ErrQuery, api.ErrToken, api.ErrQuote, api.ErrFilter} {
		if told[e] < 50 {
			t.Error(e, told[e])
		}
	}
}

// P16.4
func TestPrint(t *testing.T) {
	for want, q := range map[string]api.Query{
		"keys": {}, "count": {Kind: api.QCount}, "sum n": {Kind: api.QSum, Of: "n"}, "least by": {Kind: api.QLeast, Of: "by"}, "top n": {Kind: api.QTop, Of: "n"}, "keys where put": {Where: api.Filter{Kind: api.FPut}}, "keys where any()": {Where: or()}, "keys where each()": {Where: and()}, `keys where key ^ "a" or n = "\"\\"`: {Where: or(prefix("a"), equal("n", `"\`))}, "keys by n": {By: "n"}, "keys by n down": {By: "n", Down: true}, "keys skip 1": {Skip: 1}, "keys first 1": {First: 1},
		fmt.Sprint("keys skip ", most, " first ", most): {Skip: most, First: most}, `least m where n = "5" by g down skip 7 first 9`: {Kind: api.QLeast, Of: "m", Where: equal("n", "5"), By: "g", Down: true, Skip: 7, First: 9}, "count where not all by a": {Kind: api.QCount, Where: not(api.Filter{}), By: "a"},
	} {
		if s, e := Print(q); s != want || e != api.OK {
			t.Errorf("%s: %s %d", want, s, e)
		}
	}
}

// P16.8
func TestPrintThereAndBack(t *testing.T) {
	r := rand.New(rand.NewSource(6))
	for range 20000 {
		q := anyQuery(r)
		if r.Intn(10) == 0 {
			q.Skip, q.First = r.Intn(most)+1, most-r.Intn(2)
		}
		s, e := Print(q)
		if e != api.OK || s != modelPrint(q) {
			t.Fatalf("%v: %s %d", q, s, e)
		}
		back, at, e := Parse(s)
		if at != 0 || e != api.OK || !same(back, q) {
			t.Fatalf("%s: %v %d %d, not %v", s, back, at, e, q)
		}
	}
}
