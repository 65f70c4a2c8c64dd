package raft

import (
	"bytes"
	"slices"

	"tidemark/api"
	"tidemark/machine"
	"tidemark/quorum"
	"tidemark/rows"
)

// step is a state on its way through an input, and what is to be done of it.
type step struct {
	api.State
	out api.Output
}

func (t *step) log() api.Log { return logOf(t.State) }

func (t *step) last() (index, term int) { return lastOf(t.State) }

// end is the index at which the log ends.
func (t *step) end() int {
	index, _ := t.last()
	return index
}

// rosterUpTo is the roster by the rows up to an index, and the index of the one that it is by (0: it is the base's).
func (t *step) rosterUpTo(index int) (api.Roster, int) {
	for _, e := range slices.Backward(t.Rows) {
		if e.Index > index {
			continue
		}
		c, err := machine.Get(e.Data)
		if err == api.OK && c.Kind == api.CRoster && quorum.Check(c.Roster) == api.OK {
			return c.Roster, e.Index
		}
	}
	return t.Base.Roster, 0
}

func (t *step) roster() api.Roster {
	r, _ := t.rosterUpTo(t.end())
	return r
}

func (t *step) leads() bool { return t.Role == api.Leading }

func (t *step) votes() bool { return quorum.Votes(t.roster(), t.ID) }

// send sends a message, of the node's own term where it has none.
func (t *step) send(to int, m api.Msg) {
	m.From, m.To = t.ID, to
	if m.Term == 0 {
		m.Term = t.Hard.Term
	}
	t.out.Send = append(t.out.Send, m)
}

func (t *step) keep(h api.Hard) {
	if h != t.Hard {
		t.Hard, t.out.Hard = h, true
	}
}

func (t *step) follow(term int) {
	if term > t.Hard.Term {
		t.keep(api.Hard{Term: term})
		t.Leader = 0
	}
	if t.leads() {
		t.Timer, t.Peers = 0, [api.MaxNodes]api.Peer{}
	}
	t.Role, t.Votes, t.Looks = api.Follower, nil, nil
}

// add adds an entry to the log, if one can be added.
func (t *step) add(data []byte) bool {
	end := t.end()
	if end == api.MaxIndex || t.Hard.Term == 0 {
		return false
	}
	e := api.Entry{Index: end + 1, Term: t.Hard.Term, Data: bytes.Clone(data)}
	t.Rows = append(t.Rows, e)
	t.out.Rows = ownRows([]api.Entry{e})
	return true
}

func (t *step) ask(timeout int) {
	t.Timer, t.Timeout = 0, max(timeout, 1)
	if t.votes() && t.Hard.Term < api.MaxIndex {
		t.run(api.Asking, api.Msg{Kind: api.MAsk, Term: t.Hard.Term + 1})
	}
}

func (t *step) stand() {
	if t.Hard.Term < api.MaxIndex {
		t.keep(api.Hard{Term: t.Hard.Term + 1, Vote: t.ID + 1})
		t.run(api.Standing, api.Msg{Kind: api.MVote})
	}
}

// run begins with the node's own vote, and asks all others that vote for theirs.
func (t *step) run(role int, m api.Msg) {
	t.Role, t.Leader, t.Votes = role, 0, []int{t.ID}
	m.Index, m.Before = t.last()
	r := t.roster()
	for _, n := range quorum.All(r) {
		if n != t.ID && quorum.Votes(r, n) {
			t.send(n, m)
		}
	}
	t.count()
}

// voted counts a node's vote, if it was not counted yet.
func (t *step) voted(n int) {
	if !slices.Contains(t.Votes, n) {
		t.Votes = append(t.Votes, n)
		t.count()
	}
}

func (t *step) count() {
	if !quorum.Majority(t.roster(), t.Votes...) {
		return
	}
	switch t.Role {
	case api.Asking:
		t.stand()
	case api.Standing:
		t.win()
	}
}

func (t *step) win() {
	nothing, _ := machine.Put(api.Command{Kind: api.CNone})
	if !t.add(nothing) {
		t.follow(t.Hard.Term)
		return
	}
	t.Role, t.Leader, t.Votes, t.Looks, t.Timer = api.Leading, t.ID+1, nil, nil, 0
	t.First, t.Round = t.end(), 0
	for n := range t.Peers {
		t.Peers[n] = api.Peer{Next: t.First}
	}
	t.tell()
	t.agree()
}

func (t *step) tell() {
	for _, n := range quorum.All(t.roster()) {
		if n != t.ID {
			t.feed(n)
		}
	}
}

// feed sends a node the entries, or the piece of the base, that it should have next.
func (t *step) feed(n int) {
	next := t.Peers[n].Next
	if next <= t.Base.Index {
		t.send(n, t.piece(t.Peers[n].At))
		return
	}
	before, _ := rows.Term(t.log(), next-1)
	more := rows.From(t.log(), next, api.MaxBatch)
	t.send(n, api.Msg{Kind: api.MRows, Index: next - 1, Before: before, Rows: more, Commit: t.Commit, Round: t.Round})
}

func (t *step) piece(at int) api.Msg {
	b := t.Base
	to := min(at+api.MaxPart, len(b.Data))
	last := to == len(b.Data)
	b.Data = b.Data[at:to]
	return api.Msg{Kind: api.MPart, Index: b.Index, Base: ownBase(b), At: at, Last: last, Round: t.Round}
}

// reached is a number that each Peer has, and the node's own one.
func (t *step) reached(own int, of func(api.Peer) int) [api.MaxNodes]int {
	var all [api.MaxNodes]int
	for n, p := range t.Peers {
		all[n] = of(p)
	}
	all[t.ID] = own
	return all
}

func (t *step) agree() {
	r := t.roster()
	index := quorum.Agreed(r, t.reached(t.end(), func(p api.Peer) int { return p.Match }))
	if term, ok := rows.Term(t.log(), index); ok && term == t.Hard.Term {
		t.Commit = max(t.Commit, index)
	}
	round := quorum.Agreed(r, t.reached(t.Round, func(p api.Peer) int { return p.Round }))
	var wait []api.Look
	for _, k := range t.Looks {
		if k.Round > round {
			wait = append(wait, k)
		} else {
			t.out.Reads = append(t.out.Reads, k)
		}
	}
	t.Looks = wait
}

// rebase puts a base in place of the entries that led to it.
func (t *step) rebase(b api.Base) {
	t.Rows = rows.Cut(t.log(), b.Index, b.Term).Rows
	t.Base, t.out.Based = b, true
	for n := range t.Peers {
		t.Peers[n].At = 0
	}
}
