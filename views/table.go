package views

import (
	"maps"
	"slices"
	"strings"

	"tidemark/api"
	"tidemark/text"
)

// table is a view, and what it tells.
type table struct {
	api.View
	groups map[string]group // by their text; none of them is empty
}

// group is what counts under one text: of an index the keys, of a sum the sum.
type group struct {
	n    int
	keys map[string]int // how often each counts: what is done and taken back in any order leaves no trace
	sum  wide
}

func (g group) empty() bool { return g.n == 0 && len(g.keys) == 0 && g.sum == wide{} }

// begin is a view over all that a map has.
func begin(w api.View, all []api.Op) *table {
	t := &table{View: w, groups: map[string]group{}}
	for _, o := range all {
		if o.Has {
			t.count(o.Key, o.Value, 1)
		}
	}
	return t
}

// count is that a key with a value counts once more, or, by -1, once less.
func (t *table) count(key, value string, by int) {
	under, ok := text.Field(value, t.Field)
	if !ok {
		return
	}
	g := t.groups[under]
	g.n += by
	switch t.Kind {
	case api.VIndex:
		g.keys = countKey(g.keys, key, by)
	case api.VSum:
		g.sum = g.sum.add(number(value, t.Of), by)
	}
	if g.empty() {
		delete(t.groups, under)
		return
	}
	t.groups[under] = g
}

// countKey is how often keys count, once one counts once more or less.
func countKey(keys map[string]int, key string, by int) map[string]int {
	if keys == nil {
		keys = map[string]int{}
	}
	keys[key] += by
	if keys[key] == 0 {
		delete(keys, key)
	}
	return keys
}

// number is that of a value's field; 0, if it has none, or that is none.
func number(value, field string) int64 {
	s, ok := text.Field(value, field)
	if !ok {
		return 0
	}
	n, e := text.Number(s)
	if e != api.OK {
		return 0
	}
	return n
}

// over tells whether a sum is too great.
func (t *table) over() bool {
	for _, g := range t.groups {
		if !g.sum.fits() {
			return true
		}
	}
	return false
}

// rows is what the view tells, by rising texts.
func (t *table) rows() []api.Row {
	var l []api.Row
	for under, g := range t.groups {
		l = append(l, t.row(under, g))
	}
	slices.SortFunc(l, func(a, b api.Row) int { return strings.Compare(a.Text, b.Text) })
	return l
}

func (t *table) row(under string, g group) api.Row {
	switch t.Kind {
	case api.VIndex:
		keys := slices.Sorted(maps.Keys(g.keys))
		return api.Row{Text: under, Keys: keys, N: int64(len(keys))}
	case api.VSum:
		return api.Row{Text: under, N: int64(g.sum.low)}
	}
	return api.Row{Text: under, N: int64(g.n)}
}
