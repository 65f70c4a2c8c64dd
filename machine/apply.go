package machine

import "tidemark/api"

// reply is what comes of a call that answers a number.
func reply(n int, e api.Errno) api.Reply { return api.Reply{Err: e, N: n} }

// Apply does the entry of an index: its reply.
func (m *Machine) Apply(index int, data []byte) api.Reply {
	if !m.made() {
		return api.Reply{Err: api.ErrNil}
	}
	if index != m.at+1 || index > api.MaxIndex {
		return api.Reply{Err: api.ErrArg}
	}
	m.at = index
	c, r, fresh := m.asked(data)
	if !fresh {
		m.feed.Note(index)
		return r
	}
	r, l := m.ahead(c)
	m.feed.Note(index, l...)
	if r == (api.Reply{}) { // nothing was refused, and nothing told yet
		r = m.behind(c)
	}
	if Counts(c.Kind) && c.Kind != api.CClose {
		m.seats.Keep(c.Session, c.Seq, r)
	}
	return r
}

// asked is the command that an entry is, and whether it is to be done; if not, what is answered.
func (m *Machine) asked(data []byte) (c api.Command, r api.Reply, fresh bool) {
	c, e := Get(data)
	if e != api.OK {
		return c, api.Reply{Err: e}, false
	}
	if !Counts(c.Kind) {
		return c, r, true
	}
	r, fresh, e = m.seats.Ask(c.Session, c.Seq)
	if e != api.OK {
		return c, api.Reply{Err: e}, false
	}
	return c, r, fresh
}

// ahead does what a command does ahead of the Note of its index: its reply, and what it changed.
func (m *Machine) ahead(c api.Command) (api.Reply, []api.Event) {
	switch c.Kind {
	case api.CWrite:
		return m.write(c)
	case api.CApply, api.CReset:
		return m.follow(c)
	case api.COpen:
		return reply(m.seats.Open()), nil
	case api.CJoin:
		return reply(m.groups.Join(c.View.Name)), nil
	}
	return api.Reply{Err: m.order(c)}, nil
}

// order does a command that changes no key and answers no number.
func (m *Machine) order(c api.Command) api.Errno {
	switch c.Kind {
	case api.CClose:
		return m.seats.Close(c.Session)
	case api.CView:
		return m.views.Add(c.View, m.keys.Scan("", ""))
	case api.CDrop:
		return m.views.Drop(c.View.Name)
	case api.CAck:
		return m.feed.Ack(c.Sub, c.Pos)
	case api.CUnsub:
		return m.feed.Drop(c.Sub)
	case api.CLeave:
		return m.groups.Leave(c.View.Name, c.Sub)
	case api.CCommit:
		return m.commit(c)
	case api.CGone:
		return m.gone(c.View.Name)
	}
	return api.OK
}

// behind does what a command does behind the Note of its index.
func (m *Machine) behind(c api.Command) api.Reply {
	switch c.Kind {
	case api.CSub:
		return reply(m.feed.Add(c.Filter))
	case api.CGroup:
		return reply(m.share(c))
	}
	return api.Reply{}
}

// change does what events tell, in views and keys, or in none of them.
func (p parts) change(l []api.Event) api.Errno {
	e := p.views.Take(l...)
	if e == api.OK {
		p.keys.Take(l...)
	}
	return e
}

// write does a session's operations: the reply, and what they changed.
func (m *Machine) write(c api.Command) (api.Reply, []api.Event) {
	l, e := m.keys.Plan(m.at, c.Conds, c.Ops)
	if e == api.OK {
		e = m.change(l)
	}
	if e != api.OK {
		return api.Reply{Err: e}, nil
	}
	return api.Reply{}, l
}

// commit is that a part of a group is done up to a place; what all its parts have done is acknowledged.
func (p parts) commit(c api.Command) api.Errno {
	name := c.View.Name
	if e := p.groups.Commit(name, c.Sub, c.From, c.Part, c.Pos); e != api.OK {
		return e
	}
	g, _ := p.groups.Get(name)
	low, _ := p.groups.Low(name)
	p.feed.Ack(g.Sub, min(low, p.feed.Top())) // a subscriber that is gone, or further on, stays so
	return api.OK
}

// gone ends a group and its subscriber.
func (p parts) gone(name string) api.Errno {
	sub, e := p.groups.Drop(name)
	if e == api.OK {
		p.feed.Drop(sub) // one that is no more already is just as it should be, and the group has gone: no error may be told
	}
	return e
}

// share begins a group and its subscriber, or none of them: the subscriber's number.
func (p parts) share(c api.Command) (int, api.Errno) {
	sub, e := p.feed.Add(c.Filter)
	if e != api.OK {
		return 0, e
	}
	if e := p.groups.Add(c.View.Name, c.Pos, sub, p.feed.Top()); e != api.OK {
		p.feed.Drop(sub)
		return 0, e
	}
	return sub, api.OK
}
