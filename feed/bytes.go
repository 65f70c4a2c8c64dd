package feed

import (
	"slices"

	"tidemark/api"
	"tidemark/filter"
	"tidemark/wire"
)

// How many bytes a key, and a value, has at most: a rune has four.
const (
	keyBytes   = 4 * api.MaxKey
	valueBytes = 4 * api.MaxValue
)

// Put is all of it behind bytes.
func (f *Feed) Put(b []byte) []byte {
	if !f.made() {
		return slices.Clone(b)
	}
	out := wire.Numbers(b, f.next, f.top, len(f.kept))
	for _, e := range f.kept {
		out = append(out, eventBytes(e)...)
	}
	out = append(out, wire.Number(nil, len(f.subs))...)
	for _, s := range f.subs {
		out = append(out, subBytes(s)...)
	}
	return out
}

func eventBytes(e api.Event) []byte {
	b := wire.Text(wire.Number(nil, e.Pos), e.Key)
	b = wire.Text(wire.Flag(b, e.Had), e.Old)
	return wire.Text(wire.Flag(b, e.Has), e.Now)
}

func subBytes(s api.Sub) []byte {
	b := wire.Flag(wire.Numbers(nil, s.ID, s.From, s.At), s.Gone)
	q, _ := filter.Put(s.Filter) // no subscriber has a filter that may not be
	return append(b, q...)
}

// Get reads one; false: there is none.
func Get(r *wire.Reader) (*Feed, bool) {
	f := &Feed{next: r.Within(1, api.MaxIndex), top: r.Within(0, api.MaxIndex)}
	if !f.getEvents(r) || !f.getSubs(r) {
		return nil, false
	}
	if len(f.wanted()) != len(f.kept) {
		return nil, false
	}
	return f, true
}

// getEvents reads the events that are kept; false: they can't be.
func (f *Feed) getEvents(r *wire.Reader) bool {
	pos := 1
	for range r.Within(0, api.MaxEvents) {
		pos = r.Within(pos, f.top)
		e := api.Event{Pos: pos, Key: r.Text(keyBytes), Had: r.Flag(), Old: r.Text(valueBytes), Has: r.Flag(), Now: r.Text(valueBytes)}
		f.kept = append(f.kept, e)
	}
	return r.Err() == api.OK
}

// getSubs reads the subscribers; false: they can't be.
func (f *Feed) getSubs(r *wire.Reader) bool {
	id := 0
	for range r.Within(0, api.MaxSubs) {
		id = r.Within(id+1, f.next-1)
		from := r.Within(0, f.top)
		s := api.Sub{ID: id, From: from, At: r.Within(from, f.top), Gone: r.Flag()}
		q, ok := filter.Take(r)
		if !ok {
			return false
		}
		s.Filter = q
		f.subs = append(f.subs, s)
	}
	return r.Err() == api.OK
}
