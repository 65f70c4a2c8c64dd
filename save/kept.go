package save

import (
	"bytes"
	"slices"
	"sort"

	"tidemark/api"
)

// kept is what must not be forgotten.
type kept struct {
	hard api.Hard
	base api.Base
	rows []api.Entry
}

func within(n, lo, hi int) bool { return lo <= n && n <= hi }

func mayHard(h api.Hard) bool {
	return within(h.Term, 0, api.MaxIndex) && within(h.Vote, 0, api.MaxNodes)
}

func mayBase(b api.Base) bool {
	return within(b.Index, 0, api.MaxIndex) && within(b.Term, 0, api.MaxIndex) &&
		len(b.Data) <= api.MaxImage && mayNodes(b.Roster.Voters) && mayNodes(b.Roster.Learners)
}

func mayNodes(l []int) bool {
	return len(l) <= api.MaxNodes && !slices.ContainsFunc(l, func(n int) bool { return !within(n, 0, api.MaxNodes-1) })
}

func mayEntry(e api.Entry) bool {
	return within(e.Index, 1, api.MaxIndex) && within(e.Term, 1, api.MaxIndex) && len(e.Data) <= api.MaxData
}

func cloneEntry(e api.Entry) api.Entry {
	e.Data = bytes.Clone(e.Data)
	return e
}

func cloneBase(b api.Base) api.Base {
	b.Data = bytes.Clone(b.Data)
	b.Roster.Voters = slices.Clone(b.Roster.Voters)
	b.Roster.Learners = slices.Clone(b.Roster.Learners)
	return b
}

// goOn tells whether entries may be, and stand right behind what is kept.
func (k kept) goOn(l []api.Entry) bool {
	next := k.base.Index + len(k.rows) + 1
	for i, e := range l {
		if !mayEntry(e) || e.Index != next+i {
			return false
		}
	}
	return true
}

// find is where the row of an index stands, and whether there is one.
func (k kept) find(i int) (int, bool) {
	at := sort.Search(len(k.rows), func(j int) bool { return k.rows[j].Index >= i })
	return at, at < len(k.rows) && k.rows[at].Index == i
}

// cut lets go the rows from a place on.
func (k *kept) cut(at int) { k.rows = slices.Delete(k.rows, at, len(k.rows)) }

// rebased is what is kept with another base: the rows behind it are its own only if it has the row that stands there.
func (k kept) rebased(b api.Base) kept {
	out := kept{hard: k.hard, base: cloneBase(b)}
	if at, ok := k.find(b.Index); ok && k.rows[at].Term == b.Term {
		out.rows = slices.Clone(k.rows[at+1:])
	}
	return out
}
