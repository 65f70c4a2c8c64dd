package mirror

import (
	"bytes"
	"fmt"
	"slices"
	"strings"
	"testing"

	"tidemark/api"
	"tidemark/cluster"
)

// model is a mirror, told as the chapter does.
type model struct {
	sides     []*cluster.Cluster
	prefix    string
	calls     map[int]int // by its side, of which kind a call is that was not answered
	sub, from int
	at        *int
	saw       *api.Call
	batch     *api.Command
}

func newModel(t *testing.T, source, mirror api.Roster, prefix string) *model {
	t.Helper()
	a, e := cluster.New(source)
	b, e1 := cluster.New(mirror)
	ok(t, e, e1)
	return &model{sides: []*cluster.Cluster{a, b}, prefix: prefix, calls: map[int]int{}}
}

// blank forgets all but the calls.
func (m *model) blank() { m.sub, m.from, m.at, m.saw, m.batch = 0, 0, nil, nil, nil }

func (m *model) Relay() api.Relay {
	r := api.Relay{Sub: m.sub, From: m.from}
	if m.at != nil {
		r.At, r.Known = *m.at, true
	}
	if m.saw != nil {
		r.Seen = m.saw.Index
	}
	if m.batch != nil {
		r.To = m.batch.Pos
	}
	return r
}

func (m *model) Move(v api.Move) api.Errno {
	e := m.does(v)
	for side := range 2 {
		if _, has := m.calls[side]; has {
			m.heeds(side)
		}
	}
	return e
}

func (m *model) heeds(side int) {
	l := slices.DeleteFunc(m.sides[side].Calls(), func(k api.Call) bool { return k.Hand != 2 })
	k := l[len(l)-1]
	if k.Ended == 0 {
		return
	}
	kind := m.calls[side]
	delete(m.calls, side)
	switch kind {
	case api.RSub:
		if k.Reply.Err == api.OK {
			m.blank()
			m.sub, m.from = k.Reply.N, k.Index
		}
	case api.RLook:
		m.saw = &k
	case api.RDrop:
		m.blank()
	case api.RReset, api.RPush, api.RLearn:
		m.at, m.batch = nil, nil
		if k.Reply.N > 0 {
			m.at = &k.Reply.N
		}
		if kind == api.RReset {
			m.saw = nil
		}
	}
}

func (m *model) asks(v api.Move, side int, c api.Command) api.Errno {
	if _, has := m.calls[side]; has {
		return api.ErrBusy
	}
	e := m.sides[side].Step(api.Step{Kind: api.SAsk, Hand: 2, Node: v.Node, Command: c})
	if e == api.OK {
		m.calls[side] = v.Kind
	}
	return e
}

func (m *model) does(v api.Move) api.Errno {
	switch v.Kind {
	case api.RCluster:
		return m.drives(v)
	case api.RForget:
		for side := range m.calls {
			m.sides[side].Step(api.Step{Kind: api.SQuit, Hand: 2})
		}
		clear(m.calls)
		m.at, m.saw, m.batch = nil, nil, nil
		return api.OK
	case api.ROpen:
		return m.asks(v, 0, api.Command{Kind: api.COpen})
	case api.RSub:
		f := api.Filter{Kind: api.FPrefix, Text: m.prefix}
		if m.prefix == "" {
			f = api.Filter{}
		}
		return m.asks(v, 0, api.Command{Kind: api.CSub, Filter: f})
	case api.RLook:
		return m.asks(v, 0, api.Command{})
	case api.RLearn:
		return m.asks(v, 1, api.Command{})
	case api.RPull:
		return m.pulls(v)
	case api.RAgain:
		if _, has := m.calls[v.Side]; !has {
			return api.ErrStep
		}
		return m.sides[v.Side].Step(api.Step{Kind: api.SAgain, Hand: 2, Node: v.Node})
	}
	return m.carries(v)
}

func (m *model) drives(v api.Move) api.Errno {
	if v.Side != 0 && v.Side != 1 {
		return api.ErrStep
	}
	if k := v.Step.Kind; k == api.SAsk || k == api.SAgain || k == api.SQuit {
		if v.Step.Hand >= 2 || v.Side == 1 && v.Step.Command.Kind != 0 {
			return api.ErrStep
		}
	}
	return m.sides[v.Side].Step(v.Step)
}

// carries does the moves that ask for what the relay knows.
func (m *model) carries(v api.Move) api.Errno {
	switch {
	case v.Kind == api.RReset && m.sub != 0 && m.saw != nil && m.saw.Index >= m.from:
		c := api.Command{Kind: api.CReset, Pos: m.saw.Index}
		for _, o := range m.saw.Map {
			if strings.HasPrefix(o.Key, m.prefix) {
				c.Ops = append(c.Ops, o)
			}
		}
		return m.asks(v, 1, c)
	case v.Kind == api.RPush && m.batch != nil:
		return m.asks(v, 1, *m.batch)
	case v.Kind == api.RAck && m.sub != 0 && m.at != nil:
		return m.asks(v, 0, api.Command{Kind: api.CAck, Sub: m.sub, Pos: *m.at})
	case v.Kind == api.RDrop && m.sub != 0:
		return m.asks(v, 0, api.Command{Kind: api.CUnsub, Sub: m.sub})
	}
	return api.ErrStep
}

func (m *model) pulls(v api.Move) api.Errno {
	if m.sub == 0 || m.at == nil || m.batch != nil {
		return api.ErrStep
	}
	n := m.sides[0].Node(v.Node)
	if n == nil {
		return api.ErrNode
	}
	l, to, e := n.Machine().Read(m.sub, *m.at, 8)
	if e == api.ErrEvicted || e == api.ErrBack {
		m.blank()
	}
	if e == api.OK && to > *m.at {
		m.batch = &api.Command{Kind: api.CApply, From: *m.at, Pos: to}
		for _, x := range l {
			m.batch.Ops = append(m.batch.Ops, api.Op{Key: x.Key, Has: x.Has, Value: x.Now})
		}
	}
	return e
}

// duo is a mirror and its model.
type duo struct {
	t *testing.T
	m *Mirror
	n *model
}

func newDuo(t *testing.T, source, mirror api.Roster, prefix string) *duo {
	t.Helper()
	m, e := New(source, mirror, prefix)
	ok(t, e)
	d := &duo{t, m, newModel(t, source, mirror, prefix)}
	d.same(api.Move{})
	return d
}

// move does a move of both, and holds that they are the same.
func (d *duo) move(v api.Move) api.Errno {
	d.t.Helper()
	got, want := d.m.Move(v), d.n.Move(v)
	if got != want {
		d.t.Fatalf("%s: %d, not %d", show(v), got, want)
	}
	d.same(v)
	return got
}

func (d *duo) same(v api.Move) {
	d.t.Helper()
	same(d.t, show(v), d.m.Relay(), d.n.Relay())
	for side := range 2 {
		a, b := d.m.Side(side), d.n.sides[side]
		same(d.t, show(v), a.Waiting(), b.Waiting())
		same(d.t, show(v), a.Calls(), b.Calls())
		for i := range api.MaxNodes {
			x, y := a.Node(i), b.Node(i)
			if (x == nil) != (y == nil) || x != nil && !bytes.Equal(x.Machine().Image(), y.Machine().Image()) {
				d.t.Fatalf("%s: another node %d of side %d", show(v), i, side)
			}
		}
	}
}

// show is a thing as a text, which tells empty lists and none alike.
func show(v any) string { return fmt.Sprintf("%+v", v) }

func same[T any](t *testing.T, what string, got, want T) {
	t.Helper()
	if g, w := show(got), show(want); g != w {
		t.Fatalf("%.400s: %.1500s, not %.1500s", what, g, w)
	}
}

func ok(t *testing.T, l ...api.Errno) {
	t.Helper()
	for i, e := range l {
		if e != api.OK {
			t.Fatalf("call %d: %d", i, e)
		}
	}
}
