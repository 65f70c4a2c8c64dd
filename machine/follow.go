package machine

import (
	"tidemark/api"
	"tidemark/kv"
)

// follow does what another cluster changed, if that was not done yet: the reply, and what it changed here.
func (m *Machine) follow(c api.Command) (api.Reply, []api.Event) {
	if c.Pos <= m.mark {
		return api.Reply{N: m.mark}, nil
	}
	l, e := m.planned(c)
	if e == api.OK {
		e = m.change(l)
	}
	if e != api.OK {
		return api.Reply{Err: e, N: m.mark}, nil
	}
	m.mark = c.Pos
	return api.Reply{N: m.mark}, l
}

// planned is what a batch, or a whole map, would change.
func (m *Machine) planned(c api.Command) ([]api.Event, api.Errno) {
	switch {
	case c.Kind == api.CReset:
		return m.unlike(c.Ops), api.OK
	case c.From != m.mark:
		return nil, api.ErrMark
	}
	return m.batch(c.Ops)
}

// batch is what operations would change, each done to what the ones ahead leave.
func (m *Machine) batch(ops []api.Op) ([]api.Event, api.Errno) {
	keys := m.keys.Clone()
	var l []api.Event
	for _, o := range ops {
		more, e := keys.Do(m.at, nil, []api.Op{o})
		if e != api.OK {
			return nil, e
		}
		l = append(l, more...)
	}
	return l, api.OK
}

// unlike is what would make the map just so many keys, which kv.Set takes.
func (m *Machine) unlike(ops []api.Op) []api.Event {
	next := kv.New()
	next.Set(ops)
	var l []api.Event
	for _, o := range m.keys.Scan("", "") {
		if _, stays := next.Get(o.Key); !stays {
			l = append(l, api.Event{Pos: m.at, Key: o.Key, Had: true, Old: o.Value})
		}
	}
	for _, o := range next.Scan("", "") {
		old, had := m.keys.Get(o.Key)
		if !had || old != o.Value {
			l = append(l, api.Event{Pos: m.at, Key: o.Key, Had: had, Old: old, Has: true, Now: o.Value})
		}
	}
	return l
}
