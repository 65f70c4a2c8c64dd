package query

import (
	"cmp"
	"slices"
	"strings"

	"tidemark/api"
	"tidemark/text"
)

// What a pair has in a field, in the order in which it stands by it.
const (
	hasNumber = iota
	hasText
	hasNone
)

// found is a pair, and what it has in the field by which it stands.
type found struct {
	api.Pair
	has  int
	n    int64 // the number, if it has one
	text string
}

// find is a pair among those that stand by a field; by none they all have the same text.
func find(p api.Pair, by string) found {
	f := found{Pair: p, has: hasText}
	if by == "" {
		return f
	}
	s, ok := text.Field(p.Value, by)
	if !ok {
		f.has = hasNone
		return f
	}
	f.text = s
	if n, e := text.Number(s); e == api.OK {
		f.has, f.n = hasNumber, n
	}
	return f
}

func compare(a, b found) int {
	return cmp.Or(cmp.Compare(a.has, b.has), cmp.Compare(a.n, b.n), strings.Compare(a.text, b.text), strings.Compare(a.Key, b.Key))
}

// keys is a row for each pair, sorted.
func keys(q api.Query, l []found) []api.Row {
	slices.SortStableFunc(l, func(a, b found) int {
		if q.Down {
			return compare(b, a)
		}
		return compare(a, b)
	})
	var rows []api.Row
	for _, f := range l {
		rows = append(rows, api.Row{Text: f.Value, Keys: []string{f.Key}, N: 1})
	}
	return rows
}
