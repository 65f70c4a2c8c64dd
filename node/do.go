package node

import (
	"tidemark/api"
	"tidemark/machine"
	"tidemark/pack"
	"tidemark/raft"
)

// Do does an input: what is sent, and what came of entries and reads.
func (n *Node) Do(in api.Input) api.Done {
	if !n.made() || n.still {
		return api.Done{Err: api.ErrNil}
	}
	if in.Kind == api.IPack {
		in.ID, in.Data = n.does.At(), pack.Pack(n.does.Image())
	}
	s, out := raft.Step(n.state, in)
	if out.Err != api.OK {
		return api.Done{Err: out.Err}
	}
	m, ok := n.after(in, s, out)
	if !ok {
		return api.Done{Err: api.ErrMsg}
	}
	if e := n.keep(s, out); e != api.OK {
		n.still = true
		return api.Done{Err: e}
	}
	n.state, n.does = s, m
	return api.Done{Send: out.Send, Answers: n.apply(), Reads: out.Reads, Index: out.Index}
}

// after is the machine behind a step, ahead of the rows that it is to do: another one, if a base came by a message; false: there is none in that.
func (p parts) after(in api.Input, s api.State, out api.Output) (*machine.Machine, bool) {
	if out.Based && in.Kind == api.IMsg {
		return machineOf(s.Base)
	}
	return p.does, true
}

// act is something that is to be kept, if it is due.
type act struct {
	due bool
	do  func() api.Errno
}

// keep keeps what a step says, and has it last.
func (p parts) keep(s api.State, out api.Output) api.Errno {
	acts := [...]act{
		{out.Hard, func() api.Errno { return p.keeps.SetHard(s.Hard) }},
		{out.Based, func() api.Errno { return p.keeps.Rebase(s.Base) }},
		{out.Cut > 0, func() api.Errno { return p.keeps.Cut(out.Cut) }},
		{len(out.Rows) > 0, func() api.Errno { return p.keeps.Add(out.Rows...) }},
	}
	done := 0
	for _, a := range acts {
		if !a.due {
			continue
		}
		if e := a.do(); e != api.OK {
			return e
		}
		done++
	}
	if done == 0 {
		return api.OK
	}
	return p.keeps.Sync()
}

// apply does the rows that were committed, and not done yet.
func (p parts) apply() []api.Answer {
	var l []api.Answer
	at := p.does.At()
	for _, e := range p.state.Rows {
		if e.Index > at && e.Index <= p.state.Commit {
			l = append(l, api.Answer{Index: e.Index, Term: e.Term, Reply: p.does.Apply(e.Index, e.Data)})
		}
	}
	return l
}
