package raft

import (
	"bytes"

	"tidemark/api"
	"tidemark/machine"
	"tidemark/quorum"
	"tidemark/rows"
)

// do does an input; at an error it has done nothing.
func (t *step) do(in api.Input) api.Errno {
	switch in.Kind {
	case api.ITick:
		t.tick(in.Timeout)
	case api.IWrite:
		return t.write(in.Data)
	case api.IRoster:
		return t.change(in.Roster)
	case api.IRead:
		return t.read(in.ID)
	case api.IPack:
		return t.pack(in.ID, in.Data)
	case api.IHand:
		return t.hand(in.Node)
	case api.IMsg:
		if Right(in.Msg) != api.OK || in.Msg.To != t.ID {
			return api.ErrMsg
		}
		t.hear(in.Msg)
	default:
		return api.ErrArg
	}
	return api.OK
}

func (t *step) tick(timeout int) {
	t.Timer = min(t.Timer+1, api.MaxIndex)
	switch {
	case t.leads():
		t.tell()
	case t.Timer >= t.Timeout:
		t.ask(timeout)
	}
}

func (t *step) write(data []byte) api.Errno {
	c, e := machine.Get(data)
	switch {
	case e != api.OK:
		return e
	case c.Kind == api.CNone || c.Kind == api.CRoster:
		return api.ErrCommand
	case !t.leads():
		return api.ErrLeader
	}
	return t.lead(data)
}

// lead adds an entry at a leader, and tells it.
func (t *step) lead(data []byte) api.Errno {
	if !t.add(data) {
		return api.ErrFull
	}
	t.out.Index = t.end()
	t.tell()
	t.agree()
	return api.OK
}

func (t *step) change(next api.Roster) api.Errno {
	if !t.leads() {
		return api.ErrLeader
	}
	now, by := t.rosterUpTo(t.end())
	if by > t.Commit || t.Commit < t.First {
		return api.ErrBusy
	}
	if e := quorum.May(now, next); e != api.OK {
		return e
	}
	if !quorum.Votes(next, t.ID) {
		return api.ErrChange
	}
	data, e := machine.Put(api.Command{Kind: api.CRoster, Roster: next})
	if e != api.OK {
		return e
	}
	return t.lead(data)
}

func (t *step) read(id int) api.Errno {
	switch {
	case !t.leads():
		return api.ErrLeader
	case t.Commit < t.First || t.Round == api.MaxIndex:
		return api.ErrBusy
	}
	t.Round++
	t.Looks = append(t.Looks, api.Look{ID: id, Index: t.Commit, Round: t.Round})
	t.tell()
	t.agree()
	return api.OK
}

func (t *step) pack(index int, data []byte) api.Errno {
	switch {
	case index <= t.Base.Index || index > t.Commit:
		return api.ErrRows
	case len(data) > api.MaxImage:
		return api.ErrLong
	}
	term, _ := rows.Term(t.log(), index)
	r, _ := t.rosterUpTo(index)
	t.rebase(api.Base{Index: index, Term: term, Roster: r, Data: bytes.Clone(data)})
	return api.OK
}

func (t *step) hand(n int) api.Errno {
	switch {
	case !t.leads():
		return api.ErrLeader
	case n == t.ID || !quorum.Votes(t.roster(), n):
		return api.ErrRoster
	case t.Peers[n].Match != t.end():
		return api.ErrBusy
	}
	t.send(n, api.Msg{Kind: api.MNow})
	return api.OK
}
