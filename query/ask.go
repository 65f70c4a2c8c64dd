package query

import (
	"slices"

	"tidemark/api"
)

// Asked is whoever has keys, and indexes over them.
type Asked interface {
	Keys(from, to string) []api.Op
	Views() []api.View
	Rows(name string) ([]api.Row, api.Errno)
}

// Ask is what one answers, and by what plan.
func Ask(q api.Query, a Asked) (rows []api.Row, plan api.Plan, e api.Errno) {
	if e := Check(q); e != api.OK {
		return nil, api.Plan{}, e
	}
	if a == nil {
		return nil, api.Plan{}, api.ErrNil
	}
	defer func() {
		if recover() != nil { // one behind whom nobody is, such as a nil pointer, can't be known by itself
			rows, plan, e = nil, api.Plan{}, api.ErrNil
		}
	}()
	plan, all := follow(musts(q.Where), a)
	rows, e = answer(q, all)
	return rows, plan, e
}

// musts is the parts of a filter of which each must hold.
func musts(f api.Filter) []api.Filter {
	if f.Kind != api.FAnd {
		return []api.Filter{f}
	}
	var l []api.Filter
	for _, kid := range f.Kids {
		l = append(l, musts(kid)...)
	}
	return l
}

// follow is the plan for parts that must hold, and what is found by it.
func follow(parts []api.Filter, a Asked) (api.Plan, []api.Pair) {
	front := ""
	for _, p := range parts {
		switch p.Kind {
		case api.FEqual:
			if rows, ok := index(a, p.Name); ok {
				return api.Plan{Kind: api.PIndex, Field: p.Name, Text: p.Text}, indexed(a, rows, p.Text)
			}
		case api.FPrefix:
			if len(p.Text) > len(front) {
				front = p.Text
			}
		}
	}
	if front == "" {
		return api.Plan{}, pairs(a.Keys("", ""))
	}
	return api.Plan{Kind: api.PRange, Text: front}, pairs(a.Keys(front, behind(front)))
}

// index is the rows of an index by a field, if there is one.
func index(a Asked, field string) ([]api.Row, bool) {
	for _, w := range a.Views() {
		if w.Kind != api.VIndex || w.Field != field {
			continue
		}
		if rows, e := a.Rows(w.Name); e == api.OK {
			return rows, true
		}
	}
	return nil, false
}

// indexed is what the keys have that an index tells under a text.
func indexed(a Asked, rows []api.Row, under string) []api.Pair {
	i := slices.IndexFunc(rows, func(r api.Row) bool { return r.Text == under })
	if i < 0 {
		return nil
	}
	var l []api.Pair
	for _, key := range rows[i].Keys {
		for _, p := range pairs(a.Keys(key, key+"\x00")) {
			if p.Key == key { // whoever is asked may tell more than it was asked for
				l = append(l, p)
			}
		}
	}
	return l
}

// behind is the least text behind all that begin with a key, whose last byte is never the greatest one.
func behind(key string) string {
	last := len(key) - 1
	return key[:last] + string([]byte{key[last] + 1})
}

// pairs is the keys that operations put, and what they have.
func pairs(l []api.Op) []api.Pair {
	var all []api.Pair
	for _, o := range l {
		if o.Has {
			all = append(all, api.Pair{Key: o.Key, Value: o.Value})
		}
	}
	return all
}
