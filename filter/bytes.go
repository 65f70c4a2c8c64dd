package filter

import (
	"tidemark/api"
	"tidemark/wire"
)

// mostBytes is how many bytes a part's name or text has at most: a value has no more.
const mostBytes = 4 * api.MaxValue

// Put is a filter as bytes.
func Put(f api.Filter) ([]byte, api.Errno) {
	if e := Check(f); e != api.OK {
		return nil, e
	}
	return put(nil, f), api.OK
}

func put(b []byte, f api.Filter) []byte {
	head := wire.Text(wire.Text(wire.Number(nil, f.Kind), f.Name), f.Text)
	b = append(b, wire.Number(head, len(f.Kids))...)
	for _, k := range f.Kids {
		b = put(b, k)
	}
	return b
}

// Take reads a filter from a reader; false: there is none.
func Take(r *wire.Reader) (api.Filter, bool) {
	var w walk
	f, ok := w.take(r, 0)
	if !ok || Check(f) != api.OK {
		return api.Filter{}, false
	}
	return f, true
}

// take reads a part and those below it, no more of them than a filter may have.
func (w *walk) take(r *wire.Reader, deep int) (api.Filter, bool) {
	if !w.enter(deep) {
		return api.Filter{}, false
	}
	f := api.Filter{Kind: r.Number(), Name: r.Text(mostBytes), Text: r.Text(mostBytes)}
	for range r.Number() {
		kid, ok := w.take(r, deep+1)
		if !ok {
			return api.Filter{}, false
		}
		f.Kids = append(f.Kids, kid)
	}
	return f, r.Err() == api.OK
}

// Get is the filter of which some bytes are.
func Get(b []byte) (api.Filter, api.Errno) {
	r := wire.Read(b)
	f, ok := Take(r)
	if !ok || r.End() != api.OK {
		return api.Filter{}, api.ErrFilter
	}
	return f, api.OK
}
