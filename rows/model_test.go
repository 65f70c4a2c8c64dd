package rows

import (
	"bytes"
	"math/rand"
	"slices"

	"tidemark/api"
)

const most = api.MaxIndex

// place is an index and a term.
type place struct{ index, term int }

// modelGoes tells whether entries go on from a place.
func modelGoes(from place, l []api.Entry) bool {
	if len(l) == 0 {
		return true
	}
	e := l[0]
	if from.index < 0 || from.index > 1<<40 || e.Index-1 != from.index || e.Term < from.term || min(e.Index, e.Term) < 1 || max(e.Index, e.Term) > 1<<40 || len(e.Data) > 8192 {
		return false
	}
	return modelGoes(place{e.Index, e.Term}, l[1:])
}

func modelMay(l api.Log) bool {
	return min(l.Index, l.Term) >= 0 && max(l.Index, l.Term) <= 1<<40 && modelGoes(place{l.Index, l.Term}, l.Rows)
}

// places is the base's, and those of all rows.
func places(l api.Log) []place {
	all := []place{{l.Index, l.Term}}
	for _, e := range l.Rows {
		all = append(all, place{e.Index, e.Term})
	}
	return all
}

func modelLast(l api.Log) place {
	all := places(l)
	return all[len(all)-1]
}

func modelTerm(l api.Log, index int) (int, bool) {
	for _, p := range places(l) {
		if p.index == index {
			return p.term, true
		}
	}
	return 0, false
}

func modelFrom(l api.Log, index, most int) []api.Entry {
	var out []api.Entry
	for _, e := range l.Rows {
		there := index > l.Index && index <= modelLast(l).index
		if there && e.Index >= index && len(out) < most {
			out = append(out, e)
		}
	}
	return out
}

// joined is what a Join answers.
type joined struct {
	out   api.Log
	cut   int
	fresh []api.Entry
	ok    bool
}

func modelJoin(l api.Log, index, term int, more []api.Entry) joined {
	asIs := joined{out: l}
	last, here := modelLast(l), slices.Contains(places(l), place{index, term})
	if term < 0 || term > 1<<40 || !modelGoes(place{index, term}, more) || index > last.index || index >= l.Index && !here {
		return asIs
	}
	for i, e := range more {
		if e.Index <= l.Index || slices.Contains(places(l), place{e.Index, e.Term}) {
			continue
		}
		if ahead, _ := modelTerm(l, e.Index-1); ahead > e.Term {
			return asIs
		}
		j := joined{out: api.Log{Index: l.Index, Term: l.Term}, fresh: more[i:], ok: true}
		for _, row := range l.Rows {
			if row.Index < e.Index {
				j.out.Rows = append(j.out.Rows, row)
			}
			if row.Index == e.Index {
				j.cut = e.Index
			}
		}
		j.out.Rows = append(j.out.Rows, more[i:]...)
		return j
	}
	asIs.ok = true
	return asIs
}

func modelHint(l api.Log, index int) int {
	last := modelLast(l).index
	switch {
	case index > last:
		return last + 1
	case index <= l.Index:
		return l.Index + 1
	}
	term, _ := modelTerm(l, index)
	hint := index
	for i := len(l.Rows) - 1; i >= 0; i-- {
		if e := l.Rows[i]; e.Index <= index && e.Term == term {
			hint = e.Index
		}
	}
	return hint
}

func modelCut(l api.Log, index, term int) api.Log {
	out := api.Log{Index: index, Term: term}
	for _, e := range l.Rows {
		if slices.Contains(places(l), place{index, term}) && e.Index > index {
			out.Rows = append(out.Rows, e)
		}
	}
	return out
}

func alike(a, b []api.Entry) bool {
	return slices.EqualFunc(a, b, func(a, b api.Entry) bool {
		return a.Index == b.Index && a.Term == b.Term && bytes.Equal(a.Data, b.Data)
	})
}

func alikeLogs(a, b api.Log) bool {
	return a.Index == b.Index && a.Term == b.Term && alike(a.Rows, b.Rows)
}

// anyEntries go on from a place.
func anyEntries(r *rand.Rand, from place, n int) []api.Entry {
	var l []api.Entry
	for range n {
		from.index++
		from.term = max(1, from.term+max(0, r.Intn(5)-2))
		data := make([]byte, r.Intn(4))
		r.Read(data)
		l = append(l, api.Entry{Index: from.index, Term: from.term, Data: data})
	}
	return l
}

// anyLog is one that may be, near nought or near the greatest index.
func anyLog(r *rand.Rand) api.Log {
	l := api.Log{Index: r.Intn(4), Term: r.Intn(4)}
	n := r.Intn(8)
	if r.Intn(8) == 0 {
		l.Index = most - n - r.Intn(2)
	}
	if r.Intn(8) == 0 {
		l.Term = most - 3*n
	}
	l.Rows = anyEntries(r, place{l.Index, l.Term}, n)
	return l
}

// anyMore is where entries go on that are told of a log, and these: often some that it has.
func anyMore(r *rand.Rand, l api.Log) (int, int, []api.Entry) {
	all := places(l)
	from := all[r.Intn(len(all))]
	more := slices.Clone(modelFrom(l, from.index+1, r.Intn(5)))
	switch r.Intn(4) {
	case 0:
		from = place{from.index + r.Intn(5) - 2, max(0, from.term+r.Intn(5)-2)}
		more = nil
	case 1:
		if len(more) > 0 {
			more = more[:r.Intn(len(more))]
		}
	}
	end := from
	if len(more) > 0 {
		end = place{more[len(more)-1].Index, more[len(more)-1].Term}
	}
	more = append(more, anyEntries(r, end, r.Intn(4))...)
	if r.Intn(20) == 0 && len(more) > 0 {
		spoil(r, more)
	}
	return from.index, from.term, more
}

// spoil makes entries such that they may not go on.
func spoil(r *rand.Rand, l []api.Entry) {
	e := &l[r.Intn(len(l))]
	switch r.Intn(4) {
	case 0:
		e.Index += r.Intn(5) - 2
	case 1:
		e.Term = r.Intn(5) - 1
	case 2:
		e.Term = most + r.Intn(2)
	case 3:
		e.Data = make([]byte, 8191+r.Intn(3))
	}
}
