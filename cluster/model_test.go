package cluster

import (
	"bytes"
	"fmt"
	"reflect"
	"slices"
	"testing"

	"tidemark/api"
	"tidemark/disk"
	"tidemark/machine"
	"tidemark/node"
)

// waits is whom a node knows to answer.
type waits struct {
	hand, node int
	entry      bool
	at, term   int // an entry's index and term; or a read's number
}

// client is what a client knows.
type client struct {
	session, counted int
	call             *api.Call
	bytes            []byte
}

// model is a cluster, told as the chapter does.
type model struct {
	t       *testing.T
	first   api.Roster
	disks   []*disk.Disk
	nodes   map[int]*node.Node
	way     []int
	msgs    map[int]api.Msg
	message int
	clients [3]client
	calls   []*api.Call
	tickets map[waits]int
	read    int
	step    int
	side    [5]bool
}

func newModel(t *testing.T, first api.Roster) *model {
	m := &model{t: t, first: first, nodes: map[int]*node.Node{}, msgs: map[int]api.Msg{}, tickets: map[waits]int{}}
	for i := range 5 {
		d, e := disk.New(1 << 22)
		ok(t, e)
		m.disks = append(m.disks, d)
		ok(t, m.open(i, []int{3, 4, 5, 6, 7}[i]))
	}
	return m
}

func (m *model) open(i, timeout int) api.Errno {
	r := m.first
	if !slices.Contains(slices.Concat(r.Voters, r.Learners), i) {
		r = api.Roster{}
	}
	n, e := node.Open(i, m.disks[i], r, timeout)
	if e == api.OK {
		m.nodes[i] = n
	}
	return e
}

func (m *model) forget(which func(waits) bool) {
	for w := range m.tickets {
		if which(w) {
			delete(m.tickets, w)
		}
	}
}

func (m *model) down(i int) {
	delete(m.nodes, i)
	m.forget(func(w waits) bool { return w.node == i })
}

func (m *model) send(x api.Msg) {
	m.message++
	if len(m.way) == 200 {
		return
	}
	m.way = append(m.way, m.message)
	m.msgs[m.message] = x
}

func (m *model) answered(h int, index int, r api.Reply, keys []api.Op) {
	c := &m.clients[h]
	kind := c.call.Command.Kind
	c.call.Ended, c.call.Index, c.call.Reply, c.call.Map = m.step, index, r, keys
	c.call = nil
	if kind == api.COpen && r.Err == api.OK {
		c.session, c.counted = r.N, 0
	}
}

func (m *model) does(i int, in api.Input) api.Errno {
	n := m.nodes[i]
	d := n.Do(in)
	if d.Err == api.ErrDown || d.Err == api.ErrNil {
		m.down(i)
	}
	if d.Err != api.OK {
		return d.Err
	}
	for _, x := range d.Send {
		m.send(x)
	}
	for _, a := range d.Answers {
		for w := range m.tickets {
			if !w.entry || w.node != i || w.at != a.Index {
				continue
			}
			delete(m.tickets, w)
			if w.term == a.Term {
				m.answered(w.hand, a.Index, a.Reply, nil)
			}
		}
	}
	for _, k := range d.Reads {
		for w := range m.tickets {
			if !w.entry && w.at == k.ID {
				delete(m.tickets, w)
				m.answered(w.hand, n.Machine().At(), api.Reply{N: n.Machine().Mark()}, n.Machine().Keys("", ""))
			}
		}
	}
	return api.OK
}

func (m *model) asks(h, i int) {
	n := m.nodes[i]
	if n == nil {
		return
	}
	m.forget(func(w waits) bool { return w.hand == h })
	var w waits
	var in api.Input
	if s := n.State(); m.clients[h].call.Command.Kind == api.CNone {
		m.read++
		w, in = waits{hand: h, node: i, at: m.read}, api.Input{Kind: api.IRead, ID: m.read}
	} else if s.Role == api.Leading {
		end := s.Base.Index
		for _, e := range s.Rows {
			end = e.Index
		}
		w, in = waits{hand: h, node: i, entry: true, at: end + 1, term: s.Hard.Term}, api.Input{Kind: api.IWrite, Data: m.clients[h].bytes}
	} else {
		return
	}
	m.tickets[w] = m.step
	if m.does(i, in) != api.OK {
		delete(m.tickets, w)
	}
}

func (m *model) ask(s api.Step) api.Errno {
	c, k := &m.clients[s.Hand], s.Command
	session := slices.Contains([]int{2, 3, 4, 5, 6, 7, 8, 12, 13, 14, 15, 16}, k.Kind)
	if c.call != nil || k.Session != 0 || k.Seq != 0 || k.Kind == 9 || session && c.session == 0 {
		return api.ErrStep
	}
	if session {
		k.Session, k.Seq = c.session, c.counted+1
	}
	b, e := machine.Put(k)
	if e != api.OK {
		return e
	}
	if session {
		c.counted = k.Seq
	}
	c.call, c.bytes = &api.Call{Hand: s.Hand, Command: s.Command, Began: m.step}, b
	m.calls = append(m.calls, c.call)
	m.asks(s.Hand, s.Node)
	return api.OK
}

func (m *model) Step(s api.Step) api.Errno {
	m.step++
	hand, there := s.Hand >= 0 && s.Hand <= 2, s.Node >= 0 && s.Node <= 4
	n := m.nodes[s.Node]
	switch {
	case s.Kind < 1 || s.Kind > 14, s.Kind <= 3 && (!hand || !there), s.Kind == 4 && !there, s.Kind >= 8 && s.Kind <= 13 && !there:
		return api.ErrStep
	case s.Kind <= 3:
		return m.handStep(s)
	case s.Kind >= 5 && s.Kind <= 7:
		return m.msgStep(s)
	case s.Kind == api.SWall:
		for i := range m.side {
			m.side[i] = s.N>>i%2 != 0
		}
		return api.OK
	case s.Kind == api.SStart && n != nil, s.Kind != api.SStart && n == nil:
		return api.ErrNode
	}
	switch s.Kind {
	case api.STick:
		return m.does(s.Node, api.Input{Kind: api.ITick, Timeout: s.Timeout})
	case api.SPack:
		return m.does(s.Node, api.Input{Kind: api.IPack})
	case api.SRoster:
		return m.does(s.Node, api.Input{Kind: api.IRoster, Roster: s.Roster})
	case api.SHand:
		return m.does(s.Node, api.Input{Kind: api.IHand, Node: s.Other})
	case api.SArm:
		return m.disks[s.Node].Arm(s.N, s.Keep, s.Tear)
	case api.SCrash:
		ok(m.t, m.disks[s.Node].Crash(s.Keep, s.Tear))
		m.down(s.Node)
		return api.OK
	}
	ok(m.t, m.disks[s.Node].Start())
	return m.open(s.Node, s.Timeout)
}

func (m *model) handStep(s api.Step) api.Errno {
	c := &m.clients[s.Hand]
	if s.Kind == api.SAsk {
		return m.ask(s)
	}
	if c.call == nil {
		return api.ErrStep
	}
	if s.Kind == api.SAgain {
		m.asks(s.Hand, s.Node)
		return api.OK
	}
	c.call.Ended, c.call.Reply = m.step, api.Reply{Err: api.ErrStep}
	*c = client{}
	m.forget(func(w waits) bool { return w.hand == s.Hand })
	return api.OK
}

func (m *model) msgStep(s api.Step) api.Errno {
	at := slices.Index(m.way, s.N)
	if at < 0 {
		return api.ErrStep
	}
	x := m.msgs[s.N]
	if s.Kind == api.SDouble {
		if len(m.way) == 200 {
			return api.ErrFull
		}
		m.send(x)
		return api.OK
	}
	m.way = slices.Concat(m.way[:at], m.way[at+1:])
	delete(m.msgs, s.N)
	if s.Kind == api.STake && m.side[x.From] == m.side[x.To] && m.nodes[x.To] != nil {
		m.does(x.To, api.Input{Kind: api.IMsg, Msg: x})
	}
	return api.OK
}

// pair is a cluster and its model.
type pair struct {
	t *testing.T
	c *Cluster
	m *model
}

func newPair(t *testing.T, first api.Roster) *pair {
	t.Helper()
	c, e := New(first)
	ok(t, e)
	p := &pair{t, c, newModel(t, first)}
	p.same(api.Step{})
	return p
}

// step does a step of both, and holds that they are the same.
func (p *pair) step(s api.Step) api.Errno {
	p.t.Helper()
	got, want := p.c.Step(s), p.m.Step(s)
	if got != want {
		p.t.Fatalf("%s: %d, not %d", show(s), got, want)
	}
	p.same(s)
	return got
}

func (p *pair) same(s api.Step) {
	p.t.Helper()
	same(p.t, "way", p.c.Waiting(), p.m.way)
	for _, id := range p.m.way {
		x, e := p.c.Peek(id)
		if e != api.OK || !alike(x, p.m.msgs[id]) {
			p.t.Fatalf("%s: message %d: %s, not %s", show(s), id, show(x), show(p.m.msgs[id]))
		}
	}
	var calls []api.Call
	for _, c := range p.m.calls {
		calls = append(calls, *c)
	}
	same(p.t, "calls", p.c.Calls(), calls)
	for i := range 5 {
		p.sameNode(s, i)
	}
}

func (p *pair) sameNode(s api.Step, i int) {
	p.t.Helper()
	n, want := p.c.Node(i), p.m.nodes[i]
	if (n == nil) != (want == nil) {
		p.t.Fatalf("%s: node %d runs or not", show(s), i)
	}
	if n != nil && (!alike(n.State(), want.State()) || !bytes.Equal(n.Machine().Image(), want.Machine().Image())) {
		p.t.Fatalf("%s: node %d: %s, not %s", show(s), i, show(n.State()), show(want.State()))
	}
}

func show(v any) string {
	s := fmt.Sprintf("%+v", v)
	return s[:min(len(s), 1500)]
}

// tidy tells empty lists and none alike.
func tidy[T any](v T) T {
	tidyIn(reflect.ValueOf(&v).Elem())
	return v
}

func tidyIn(v reflect.Value) {
	switch v.Kind() {
	case reflect.Struct:
		for i := range v.NumField() {
			tidyIn(v.Field(i))
		}
	case reflect.Slice:
		if v.Len() == 0 {
			v.SetZero()
			return
		}
		c := reflect.MakeSlice(v.Type(), v.Len(), v.Len())
		reflect.Copy(c, v)
		v.Set(c)
		for i := range v.Len() {
			tidyIn(v.Index(i))
		}
	case reflect.Array:
		for i := range v.Len() {
			tidyIn(v.Index(i))
		}
	}
}

func alike[T any](a, b T) bool { return reflect.DeepEqual(tidy(a), tidy(b)) }

func same[T any](t *testing.T, what string, got, want T) {
	t.Helper()
	if !alike(got, want) {
		t.Fatalf("%s: %s, not %s", what, show(got), show(want))
	}
}

func ok(t *testing.T, l ...api.Errno) {
	t.Helper()
	for i, e := range l {
		if e != api.OK {
			t.Fatalf("call %d: %d", i, e)
		}
	}
}
