package rows

import (
	"slices"

	"tidemark/api"
)

// Join is a log behind what entries bring that go on from an index of a term: it, from where on others went (0: none did), and which were new; false: they do not go on from here.
func Join(l api.Log, index, term int, more ...api.Entry) (out api.Log, cut int, fresh []api.Entry, ok bool) {
	k, may := known(l)
	if !may {
		return api.Log{}, 0, nil, false
	}
	if !k.meets(index, term, more) {
		return k.with(k.end(), nil), 0, nil, false
	}
	first := slices.IndexFunc(more, func(e api.Entry) bool { return e.Index > k.Index && !k.is(e.Index, e.Term) })
	if first < 0 {
		return k.with(k.end(), nil), 0, nil, true
	}
	at := more[first].Index
	if ahead, _ := k.term(at - 1); ahead > more[first].Term {
		return k.with(k.end(), nil), 0, nil, false
	}
	if k.rowed(at) {
		cut = at
	}
	return k.with(at-1, more[first:]), cut, own(more[first:]), true
}

// meets tells whether entries behind one of an index and a term go on from there, and the log has that, or has it no more.
func (l sound) meets(index, term int, more []api.Entry) bool {
	return inRange(term) && goOn(index, term, more) && (index < l.Index || l.is(index, term))
}

// with is the log up to an index, and entries behind it.
func (l sound) with(index int, more []api.Entry) api.Log {
	l.Rows = own(slices.Concat(l.Rows[:index-l.Index], more))
	return l.Log
}
