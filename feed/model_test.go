package feed

import (
	"bytes"
	"fmt"
	"math/rand"
	"reflect"
	"slices"

	"tidemark/api"
	"tidemark/filter"
)

// model forgets nothing: what is kept is told by who wants it.
type model struct {
	next, top int
	all       []api.Event
	subs      []api.Sub
}

// low is the least place that one who is not gone has; the top and 1, if all are gone.
func (m *model) low() int {
	low := m.top + 1
	for _, s := range m.subs {
		if !s.Gone {
			low = min(low, s.At)
		}
	}
	return low
}

func (m *model) kept() []api.Event {
	return slices.DeleteFunc(slices.Clone(m.all), func(e api.Event) bool { return e.Pos <= m.low() })
}

func (m *model) note(pos int, l []api.Event) api.Errno {
	if pos <= m.top {
		return 82
	}
	if pos > 1<<40 {
		return 5
	}
	m.top = pos
	for _, e := range l {
		m.all = append(m.all, api.Event{Pos: pos, Key: e.Key, Had: e.Had, Old: e.Old, Has: e.Has, Now: e.Now})
	}
	for len(m.kept()) > 32 {
		low := m.low()
		i := slices.IndexFunc(m.subs, func(s api.Sub) bool { return !s.Gone && s.At == low })
		m.subs[i].Gone = true
	}
	return 0
}

func (m *model) add(q api.Filter) (int, api.Errno) {
	if e := filter.Check(q); e != 0 {
		return 0, e
	}
	if len(m.subs) == 4 {
		return 0, 7
	}
	if m.next == 1<<40 {
		return 0, 5
	}
	m.subs = append(m.subs, api.Sub{ID: m.next, From: m.top, At: m.top, Filter: q})
	m.next++
	return m.next - 1, 0
}

// sub is the subscriber of a number; nil: there is none.
func (m *model) sub(id int) *api.Sub {
	for i := range m.subs {
		if m.subs[i].ID == id {
			return &m.subs[i]
		}
	}
	return nil
}

func (m *model) may(id, pos int) api.Errno {
	s := m.sub(id)
	switch {
	case s == nil:
		return 80
	case s.Gone:
		return 81
	case pos < s.At:
		return 82
	case pos > m.top:
		return 5
	}
	return 0
}

func (m *model) drop(id int) api.Errno {
	if m.sub(id) == nil {
		return 80
	}
	m.subs = slices.DeleteFunc(m.subs, func(s api.Sub) bool { return s.ID == id })
	return 0
}

func (m *model) ack(id, pos int) api.Errno {
	e := m.may(id, pos)
	if e == 0 {
		m.sub(id).At = pos
	}
	return e
}

func (m *model) read(id, after, most int) ([]api.Event, int, api.Errno) {
	if e := m.may(id, after); e != 0 {
		return nil, 0, e
	}
	pages := map[int][]api.Event{}
	var places []int
	for _, e := range m.kept() {
		if e.Pos <= after {
			continue
		}
		if pages[e.Pos] == nil {
			places = append(places, e.Pos)
		}
		pages[e.Pos] = append(pages[e.Pos], e)
	}
	var l []api.Event
	for i, pos := range places {
		p := filter.Pass(m.sub(id).Filter, pages[pos]...)
		if i > 0 && len(l)+len(p) > most {
			return l, places[i-1], 0
		}
		l = append(l, p...)
	}
	return l, m.top, 0
}

func modelNumber(n int) []byte {
	var b []byte
	for ; n > 0; n /= 256 {
		b = append([]byte{byte(n)}, b...)
	}
	return append([]byte{byte(len(b))}, b...)
}

func modelText(s string) []byte { return append(modelNumber(len(s)), s...) }

func modelFlag(yes bool) []byte {
	if yes {
		return []byte{1, 1}
	}
	return []byte{0}
}

func modelFilter(q api.Filter) []byte {
	b := bytes.Join([][]byte{modelNumber(q.Kind), modelText(q.Name), modelText(q.Text), modelNumber(len(q.Kids))}, nil)
	for _, k := range q.Kids {
		b = append(b, modelFilter(k)...)
	}
	return b
}

// modelPut is the bytes of a feed that has just these, whether it may be or not.
func modelPut(next, top int, kept []api.Event, subs []api.Sub) []byte {
	l := [][]byte{modelNumber(next), modelNumber(top), modelNumber(len(kept))}
	for _, e := range kept {
		l = append(l, modelNumber(e.Pos), modelText(e.Key), modelFlag(e.Had), modelText(e.Old), modelFlag(e.Has), modelText(e.Now))
	}
	l = append(l, modelNumber(len(subs)))
	for _, s := range subs {
		l = append(l, modelNumber(s.ID), modelNumber(s.From), modelNumber(s.At), modelFlag(s.Gone), modelFilter(s.Filter))
	}
	return bytes.Join(l, nil)
}

func alike(a, b []api.Sub) bool { return len(a) == 0 && len(b) == 0 || reflect.DeepEqual(a, b) }

func one(r *rand.Rand, l ...string) string { return l[r.Intn(len(l))] }

func anyFilter(r *rand.Rand) api.Filter {
	f := []api.Filter{
		{}, {Kind: api.FPrefix, Text: "a"}, {Kind: api.FPut}, {Kind: api.FEqual, Name: "n", Text: "1"},
		{Kind: api.FNot, Kids: []api.Filter{{Kind: api.FPut}}}, {Kind: api.FOr},
		{Kind: api.FAnd, Kids: []api.Filter{{Kind: api.FPrefix, Text: "b"}, {Kind: api.FNot, Kids: []api.Filter{{Kind: api.FEqual, Name: "n", Text: "2"}}}}},
		{Kind: 9}, {Kind: api.FNot},
	}
	return f[r.Intn(len(f))]
}

func anyEvents(r *rand.Rand, most int) []api.Event {
	var l []api.Event
	for range r.Intn(most + 1) {
		e := api.Event{Pos: r.Intn(9), Key: one(r, "a", "b", "ab") + fmt.Sprint(r.Intn(4)), Had: r.Intn(2) == 0, Has: r.Intn(3) > 0}
		if e.Had {
			e.Old = one(r, "", "n:1")
		}
		if e.Has {
			e.Now = one(r, "", "n:1", "n:2")
		}
		l = append(l, e)
	}
	return l
}
