package query

import (
	"fmt"
	"math"
	"math/rand"
	"reflect"
	"slices"
	"strings"
	"testing"

	"tidemark/api"
)

const (
	most = api.MaxIndex
	top  = "9223372036854775807"
	low  = "-9223372036854775808"
	half = "4611686018427387904"
)

func prefix(s string) api.Filter         { return api.Filter{Kind: api.FPrefix, Text: s} }
func equal(name, text string) api.Filter { return api.Filter{Kind: api.FEqual, Name: name, Text: text} }
func not(f api.Filter) api.Filter        { return api.Filter{Kind: api.FNot, Kids: []api.Filter{f}} }
func and(l ...api.Filter) api.Filter     { return api.Filter{Kind: api.FAnd, Kids: l} }
func or(l ...api.Filter) api.Filter      { return api.Filter{Kind: api.FOr, Kids: l} }

// pair is "key value".
func pair(s string) api.Pair {
	key, value, _ := strings.Cut(s, " ")
	return api.Pair{Key: key, Value: value}
}

func some(l ...string) []api.Pair {
	var all []api.Pair
	for _, s := range l {
		all = append(all, pair(s))
	}
	return all
}

// keyRows is the rows of QKeys of pairs.
func keyRows(l ...string) []api.Row {
	var rows []api.Row
	for _, s := range l {
		rows = append(rows, api.Row{Text: pair(s).Value, Keys: []string{pair(s).Key}, N: 1})
	}
	return rows
}

// tells fails unless a question is answered so, by the model, too.
func tells(t *testing.T, q api.Query, all []api.Pair, want []api.Row, e api.Errno) {
	t.Helper()
	if l, got := Over(q, all...); got != e || !alike(l, want) {
		t.Errorf("%v: %v %d, not %v %d", q, l, got, want, e)
	}
	if l, got := modelOver(q, all); got != e || !alike(l, want) {
		t.Errorf("the model: %v: %v %d, not %v %d", q, l, got, want, e)
	}
}

// The document's example.
func TestExample(t *testing.T) {
	q, at, e := Parse(`count where key ^ "a" by g`)
	if at != 0 || e != api.OK {
		t.Fatal(at, e)
	}
	tells(t, q, some("a1 g:x", "a2 g:y", "a3 g:x", "b g:x"), []api.Row{{Text: "x", N: 2}, {Text: "y", N: 1}}, api.OK)
	q, at, e = Parse("top n")
	if at != 0 || e != api.OK {
		t.Fatal(at, e)
	}
	tells(t, q, some("a n:5", "b n:-2", "c m:9"), []api.Row{{N: 5}}, api.OK)
}

// P16.1
func TestCheckOfAQuestion(t *testing.T) {
	const ok, no = api.OK, api.ErrQuery
	deep := api.Filter{}
	for range 6 {
		deep = not(deep)
	}
	for i, c := range []struct {
		q    api.Query
		want api.Errno
	}{
		{api.Query{}, ok}, {api.Query{Kind: api.QCount}, ok}, {api.Query{Kind: api.QSum, Of: "n"}, ok}, {api.Query{Kind: api.QLeast, Of: "abcdefgh"}, ok}, {api.Query{Kind: api.QTop, Of: "n"}, ok}, {api.Query{Kind: -1}, no}, {api.Query{Kind: 5}, no}, {api.Query{Kind: 5, Of: "n"}, no}, {api.Query{Kind: -1, Of: "n"}, no}, {api.Query{Kind: math.MaxInt}, no}, {api.Query{Kind: math.MinInt}, no},
		{api.Query{Of: "n"}, no}, {api.Query{Kind: api.QCount, Of: "n"}, no}, {api.Query{Kind: api.QSum}, no}, {api.Query{Kind: api.QLeast}, no}, {api.Query{Kind: api.QTop}, no}, {api.Query{Kind: api.QSum, Of: "abcdefghi"}, no}, {api.Query{Kind: api.QLeast, Of: "N"}, no}, {api.Query{Kind: api.QTop, Of: "\xff"}, no}, {api.Query{Of: "?"}, no},
		{api.Query{By: "a"}, ok}, {api.Query{By: "a", Down: true}, ok}, {api.Query{Kind: api.QSum, Of: "a", By: "a", Down: true}, ok}, {api.Query{Down: true}, no}, {api.Query{Kind: api.QCount, Down: true}, no}, {api.Query{By: "abcdefghi"}, no}, {api.Query{By: "A"}, no}, {api.Query{By: "a b", Down: true}, no}, {api.Query{Kind: api.QCount, By: "é"}, no},
		{api.Query{Skip: most, First: most}, ok}, {api.Query{Skip: 1}, ok}, {api.Query{Skip: -1}, no}, {api.Query{First: -1}, no}, {api.Query{Skip: most + 1}, no}, {api.Query{First: most + 1}, no}, {api.Query{Skip: math.MinInt}, no}, {api.Query{First: math.MaxInt}, no},
		{api.Query{Where: equal("n", "")}, ok}, {api.Query{Where: prefix("")}, api.ErrFilter}, {api.Query{Where: deep}, api.ErrDeep}, {api.Query{Where: prefix(""), Kind: 9, Skip: -1}, api.ErrFilter}, {api.Query{Where: deep, Down: true}, api.ErrDeep}, {api.Query{Where: api.Filter{Kind: 9}}, api.ErrFilter},
	} {
		if got := Check(c.q); got != c.want || modelCheck(c.q) != c.want {
			t.Errorf("%d: %v: %d, not %d", i, c.q, got, c.want)
		}
		if c.want == ok {
			continue
		}
		tells(t, c.q, some("a n:1"), nil, c.want)
		l, plan, e := Ask(c.q, &fake{pairs: map[string]string{"a": "n:1"}})
		if len(l) != 0 || plan != (api.Plan{}) || e != c.want {
			t.Errorf("%d: Ask: %v %v %d", i, l, plan, e)
		}
		if _, _, e := Ask(c.q, nil); e != c.want {
			t.Errorf("%d: Ask of nobody: %d", i, e)
		}
		if s, e := Print(c.q); s != "" || e != c.want {
			t.Errorf("%d: Print: %q %d", i, s, e)
		}
	}
}

// P16.2: sorted by keys, and by what a field has.
func TestKeysAreSorted(t *testing.T) {
	all := some("g", "k9 n:10", "B n:x", "k1 n:9", "é n:-3", "k2 n:9", "a n:", "z n:07", "k3 n:"+top, "k4 n:9223372036854775808", "k5 n:"+low, "b m:1 n", "c n:x y:n", "d n:é", "e n:-0", "f n:X n:1", "")
	sorted := keyRows("k5 n:"+low, "é n:-3", "k1 n:9", "k2 n:9", "k9 n:10", "k3 n:"+top, "a n:", "e n:-0", "z n:07", "k4 n:9223372036854775808", "f n:X n:1", "B n:x", "c n:x y:n", "d n:é", "", "b m:1 n", "g")
	tells(t, api.Query{By: "n"}, all, sorted, api.OK)
	back := slices.Clone(sorted)
	slices.Reverse(back)
	tells(t, api.Query{By: "n", Down: true}, all, back, api.OK)
	tells(t, api.Query{}, some("b 1", "a 2", "é 3", "B 4", "ab 5", "a\xff 6", " 7"), keyRows(" 7", "B 4", "a 2", "ab 5", "a\xff 6", "b 1", "é 3"), api.OK)
	tells(t, api.Query{By: "q"}, some("b 1", "a 2", "c q:"), keyRows("c q:", "a 2", "b 1"), api.OK)
	tells(t, api.Query{}, some("b :y", "a :z"), keyRows("a :z", "b :y"), api.OK)
	tells(t, api.Query{Where: or()}, all, nil, api.OK)
	tells(t, api.Query{}, nil, nil, api.OK)
	tells(t, api.Query{Where: and(prefix("a"), equal("n", "1"))}, some("b n:1", "ab n:1", "a n:2", "a n:1 x"), keyRows("a n:1 x", "ab n:1"), api.OK)
	tells(t, api.Query{Where: api.Filter{Kind: api.FPut}}, some("b", "a"), keyRows("a", "b"), api.OK)
	tells(t, api.Query{Where: not(equal("n", "1"))}, some("b n:1", "a n:2"), keyRows("a n:2"), api.OK)
}

// P16.2: those that are alike stay in their order, whichever way.
func TestThoseAlikeStay(t *testing.T) {
	all := some("b n:1 x", "a n:2 1", "a n:1 1", "a n:2 2", "a n:1 2", "a q:1", "a n:2 3", "a q:2")
	tells(t, api.Query{}, all, keyRows("a n:2 1", "a n:1 1", "a n:2 2", "a n:1 2", "a q:1", "a n:2 3", "a q:2", "b n:1 x"), api.OK)
	tells(t, api.Query{By: "n"}, all, keyRows("a n:1 1", "a n:1 2", "b n:1 x", "a n:2 1", "a n:2 2", "a n:2 3", "a q:1", "a q:2"), api.OK)
	tells(t, api.Query{By: "n", Down: true}, all, keyRows("a q:1", "a q:2", "a n:2 1", "a n:2 2", "a n:2 3", "b n:1 x", "a n:1 1", "a n:1 2"), api.OK)
	var many, back []string
	for i := range 300 {
		many = append(many, fmt.Sprint("k", i%3, " n:", i%2, " ", i))
	}
	tells(t, api.Query{By: "n"}, some(many...), modelKeys(api.Query{By: "n"}, some(many...)), api.OK)
	for n := 1; n >= 0; n-- {
		for k := 2; k >= 0; k-- {
			for _, s := range many {
				if strings.HasPrefix(s, fmt.Sprint("k", k, " n:", n, " ")) {
					back = append(back, s)
				}
			}
		}
	}
	tells(t, api.Query{By: "n", Down: true}, some(many...), keyRows(back...), api.OK)
}

// P16.2: groups, and what is told of each.
func TestGroups(t *testing.T) {
	all := some("k1 g:x n:5", "k2 g:y n:7", "k3 g:x n:-2", "k4 n:100", "k5 g: n:1", "k6 g:x n:z", "k7 g:X", "k8 g:é n:07", "k9 g:x g:y", "x g:y n:3", "x g:y n:3")
	for i, c := range []struct {
		q    api.Query
		want []api.Row
	}{
		{api.Query{Kind: api.QCount}, []api.Row{{N: 11}}}, {api.Query{Kind: api.QSum, Of: "n"}, []api.Row{{N: 117}}}, {api.Query{Kind: api.QLeast, Of: "n"}, []api.Row{{N: -2}}}, {api.Query{Kind: api.QTop, Of: "n"}, []api.Row{{N: 100}}},
		{api.Query{Kind: api.QCount, By: "g"}, []api.Row{{Text: "", N: 1}, {Text: "X", N: 1}, {Text: "x", N: 4}, {Text: "y", N: 3}, {Text: "é", N: 1}}}, {api.Query{Kind: api.QCount, By: "g", Down: true}, []api.Row{{Text: "é", N: 1}, {Text: "y", N: 3}, {Text: "x", N: 4}, {Text: "X", N: 1}, {Text: "", N: 1}}},
		{api.Query{Kind: api.QSum, Of: "n", By: "g"}, []api.Row{{Text: "", N: 1}, {Text: "X"}, {Text: "x", N: 3}, {Text: "y", N: 13}, {Text: "é"}}}, {api.Query{Kind: api.QLeast, Of: "n", By: "g"}, []api.Row{{Text: "", N: 1}, {Text: "x", N: -2}, {Text: "y", N: 3}}}, {api.Query{Kind: api.QTop, Of: "n", By: "g"}, []api.Row{{Text: "", N: 1}, {Text: "x", N: 5}, {Text: "y", N: 7}}},
		{api.Query{Kind: api.QLeast, Of: "n", By: "g", Down: true}, []api.Row{{Text: "y", N: 3}, {Text: "x", N: -2}, {Text: "", N: 1}}}, {api.Query{Kind: api.QTop, Of: "n", By: "n"}, []api.Row{{Text: "-2", N: -2}, {Text: "1", N: 1}, {Text: "100", N: 100}, {Text: "3", N: 3}, {Text: "5", N: 5}, {Text: "7", N: 7}}},
		{api.Query{Kind: api.QCount, By: "q"}, nil}, {api.Query{Kind: api.QSum, Of: "q"}, []api.Row{{N: 0}}}, {api.Query{Kind: api.QLeast, Of: "q"}, nil}, {api.Query{Kind: api.QTop, Of: "q"}, nil}, {api.Query{Kind: api.QSum, Of: "g"}, []api.Row{{N: 0}}},
		{api.Query{Kind: api.QCount, Where: or()}, nil}, {api.Query{Kind: api.QSum, Of: "n", Where: or()}, nil}, {api.Query{Kind: api.QTop, Of: "n", Where: or()}, nil}, {api.Query{Kind: api.QCount, Where: equal("g", "x")}, []api.Row{{N: 4}}}, {api.Query{Kind: api.QSum, Of: "n", Where: equal("g", "X")}, []api.Row{{N: 0}}},
	} {
		tells(t, c.q, all, c.want, api.OK)
		if l, e := Over(c.q); len(l) != 0 || e != api.OK {
			t.Errorf("%d: of none: %v %d", i, l, e)
		}
	}
	tells(t, api.Query{Kind: api.QCount}, some("a :x", "b :y"), []api.Row{{N: 2}}, api.OK)
	tells(t, api.Query{Kind: api.QLeast, Of: "n"}, some("a n:"+top, "b n:"+low, "c n:0"), []api.Row{{N: math.MinInt64}}, api.OK)
	tells(t, api.Query{Kind: api.QTop, Of: "n"}, some("a n:"+low, "b n:-5"), []api.Row{{N: -5}}, api.OK)
}

// P16.2
func TestSumsOfSixtyFourBits(t *testing.T) {
	for i, c := range []struct {
		numbers []string
		want    int64
		e       api.Errno
	}{
		{[]string{top}, math.MaxInt64, api.OK}, {[]string{low}, math.MinInt64, api.OK}, {[]string{top, "1"}, 0, api.ErrOver}, {[]string{low, "-1"}, 0, api.ErrOver}, {[]string{top, low}, -1, api.OK}, {[]string{top, "1", "-1"}, math.MaxInt64, api.OK}, {[]string{low, "-1", "1"}, math.MinInt64, api.OK},
		{[]string{half, half}, 0, api.ErrOver}, {[]string{"-" + half, "-" + half}, math.MinInt64, api.OK}, {[]string{top, top, low, low}, -2, api.OK}, {[]string{top, top, "2"}, 0, api.ErrOver}, {[]string{low, low}, 0, api.ErrOver}, {[]string{low, low, low, low}, 0, api.ErrOver}, {[]string{top, top, top, low, low, low}, -3, api.OK},
		{[]string{top, "9223372036854775808"}, math.MaxInt64, api.OK}, {[]string{"-9223372036854775809", "5"}, 5, api.OK}, {[]string{top, "01", "x", "", "+1", "-0"}, math.MaxInt64, api.OK},
	} {
		all := some("other g:y n:7", "none g:z")
		for j, n := range c.numbers {
			all = append(all, pair(fmt.Sprint("k", j, " g:x n:", n)))
		}
		q := api.Query{Kind: api.QSum, Of: "n", Where: prefix("k")}
		for range 2 {
			var rows, groups []api.Row
			if c.e == api.OK {
				rows, groups = []api.Row{{N: c.want}}, []api.Row{{Text: "x", N: c.want}, {Text: "y", N: 7}, {Text: "z"}}
			}
			tells(t, q, all, rows, c.e)
			by := api.Query{Kind: api.QSum, Of: "n", By: "g"}
			tells(t, by, all, groups, c.e)
			by.Skip = 9
			tells(t, by, all, nil, c.e)
			by.Skip, by.First, by.Down = 0, 1, true
			tells(t, by, all, groups[max(0, len(groups)-1):], c.e)
			slices.Reverse(all)
		}
		if l, e := Over(api.Query{Kind: api.QTop, Of: "n"}, all...); len(l) != 1 || e != api.OK {
			t.Errorf("%d: the greatest one: %v %d", i, l, e)
		}
	}
}

// P16.2: what is left out.
func TestSkipAndFirst(t *testing.T) {
	all := some("a g:1", "b g:2", "c g:3", "d g:4")
	keys, counts := keyRows("a g:1", "b g:2", "c g:3", "d g:4"), []api.Row{{Text: "1", N: 1}, {Text: "2", N: 1}, {Text: "3", N: 1}, {Text: "4", N: 1}}
	for _, c := range []struct{ skip, first, from, to int }{
		{0, 0, 0, 4}, {1, 0, 1, 4}, {4, 0, 4, 4}, {5, 0, 4, 4}, {most, 0, 4, 4}, {0, 1, 0, 1}, {0, 4, 0, 4}, {0, 5, 0, 4}, {0, most, 0, 4}, {1, 2, 1, 3}, {3, 2, 3, 4}, {4, 1, 4, 4}, {most, most, 4, 4}, {3, 1, 3, 4},
	} {
		tells(t, api.Query{Skip: c.skip, First: c.first}, all, keys[c.from:c.to], api.OK)
		tells(t, api.Query{Kind: api.QCount, By: "g", Skip: c.skip, First: c.first}, all, counts[c.from:c.to], api.OK)
	}
}

// P16.1, P16.2: any question to any pairs.
func TestOverIsTheModels(t *testing.T) {
	r := rand.New(rand.NewSource(1))
	rows, over, refused := 0, 0, 0
	for range 30000 {
		q, all := anyQuery(r), anyPairs(r)
		switch r.Intn(30) {
		case 0:
			q.Kind = r.Intn(9) - 2
		case 1:
			q.By = one(r, "", "A")
		case 2:
			q.Of = one(r, "", "n", "1")
		case 3:
			q.Skip, q.First = r.Intn(3)-1, r.Intn(3)-1
		}
		got, e := Over(q, all...)
		want, f := modelOver(q, all)
		if e != f || !alike(got, want) {
			t.Fatalf("%v over %v: %v %d, not %v %d", q, all, got, e, want, f)
		}
		if modelCheck(q) != Check(q) {
			t.Fatal(q)
		}
		rows += len(got)
		if e == api.ErrOver {
			over++
		}
		if e == api.ErrQuery {
			refused++
		}
	}
	if rows < 20000 || over < 50 || refused < 200 {
		t.Error(rows, over, refused)
	}
}

// What is handed in is as it was, and nobody's answer is another one's.
func TestOverIsNewMemory(t *testing.T) {
	room := some("b n:1", "a n:2", "c n:x", "spare s")
	all := room[:3]
	where := and(prefix("a"), equal("n", "2"))
	for _, q := range []api.Query{{}, {By: "n", Down: true}, {Kind: api.QCount, By: "n"}, {Where: where}, {Skip: 1, First: 1}} {
		a, _ := Over(q, all...)
		b, _ := Over(q, all...)
		want, _ := modelOver(q, all)
		for i := range a[:cap(a)] {
			row := &a[:cap(a)][i]
			for j := range row.Keys[:cap(row.Keys)] {
				row.Keys[:cap(row.Keys)][j] = "?"
			}
			row.Keys = append(row.Keys, "?")
			row.Text = "?"
		}
		if !alike(b, want) || !slices.Equal(room, some("b n:1", "a n:2", "c n:x", "spare s")) || !reflect.DeepEqual(where, and(prefix("a"), equal("n", "2"))) {
			t.Errorf("%v: %v %v", q, b, room)
		}
	}
}

// P16.6
func TestPagesAreAllRows(t *testing.T) {
	r := rand.New(rand.NewSource(2))
	pages := 0
	for range 3000 {
		q, all := anyQuery(r), anyPairs(r)
		q.Skip, q.First = 0, 0
		whole, e := Over(q, all...)
		if e != api.OK {
			continue
		}
		var rows []api.Row
		for q.First = 1 + r.Intn(4); q.Skip < 100; q.Skip += q.First {
			l, e := Over(q, all...)
			if e != api.OK || len(l) > q.First {
				t.Fatal(q, l, e)
			}
			if len(l) == 0 {
				break
			}
			pages++
			rows = append(rows, l...)
		}
		if !alike(rows, whole) {
			t.Fatalf("%v: %v, not %v", q, rows, whole)
		}
	}
	if pages < 2000 {
		t.Error(pages)
	}
}

// P16.7
func TestGroupsAddUp(t *testing.T) {
	r := rand.New(rand.NewSource(3))
	n := 0
	for range 5000 {
		where, by, all := anyWhere(r), one(r, "a", "b", "n", "q"), anyPairs(r)
		var holders []api.Pair
		for _, p := range all {
			if _, ok := modelField(p.Value, by); ok {
				holders = append(holders, p)
			}
		}
		for _, q := range []api.Query{{Kind: api.QCount, Where: where}, {Kind: api.QSum, Of: "m", Where: where}} {
			whole, e := Over(q, holders...)
			q.By = by
			groups, f := Over(q, all...)
			total, parts := int64(0), int64(0)
			for _, row := range whole {
				total += row.N
			}
			for _, row := range groups {
				parts += row.N
			}
			if e != api.OK || f != api.OK || total != parts || (len(whole) == 0) != (len(groups) == 0) {
				t.Fatal(q, whole, groups, e, f)
			}
			n += len(groups)
		}
	}
	if n < 5000 {
		t.Error(n)
	}
}
