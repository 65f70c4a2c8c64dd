package query

import (
	"maps"
	"math/bits"
	"slices"

	"tidemark/api"
	"tidemark/text"
)

// groups is a row for each text by which pairs stand, if there is something to tell of them.
func groups(q api.Query, l []found) ([]api.Row, api.Errno) {
	values := map[string][]string{}
	for _, f := range l {
		if f.has != hasNone {
			values[f.text] = append(values[f.text], f.Value)
		}
	}
	texts := slices.Sorted(maps.Keys(values))
	if q.Down {
		slices.Reverse(texts)
	}
	var rows []api.Row
	for _, s := range texts {
		n, ok, e := tell(q, values[s])
		if e != api.OK {
			return nil, e
		}
		if ok {
			rows = append(rows, api.Row{Text: s, N: n})
		}
	}
	return rows, api.OK
}

// tell is what a question tells of the values of a group, if there is something.
func tell(q api.Query, values []string) (int64, bool, api.Errno) {
	if q.Kind == api.QCount {
		return int64(len(values)), true, api.OK
	}
	l := numbers(values, q.Of)
	switch {
	case q.Kind == api.QSum:
		n, ok := sum(l)
		if !ok {
			return 0, false, api.ErrOver
		}
		return n, true, api.OK
	case len(l) == 0:
		return 0, false, api.OK
	case q.Kind == api.QLeast:
		return slices.Min(l), true, api.OK
	}
	return slices.Max(l), true, api.OK
}

// numbers is those that values have in a field.
func numbers(values []string, field string) []int64 {
	var l []int64
	for _, v := range values {
		s, ok := text.Field(v, field)
		if n, e := text.Number(s); ok && e == api.OK {
			l = append(l, n)
		}
	}
	return l
}

// sum is that of numbers, if it is one of 64 bits: it is made of 128, as it may go beyond 64 and come back ahead of its end.
func sum(l []int64) (int64, bool) {
	var high, low uint64
	for _, n := range l {
		next, carry := bits.Add64(low, uint64(n), 0)
		low, high = next, high+uint64(n>>63)+carry
	}
	return int64(low), int64(high) == int64(low)>>63
}
