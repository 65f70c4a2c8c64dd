package cluster

import (
	"errors"
	"strconv"

	"tidemark/api"
	"tidemark/machine"
)

// refusal is why a node came to nothing with what it was to do.
type refusal struct {
	node int
	why  api.Errno
}

func (r refusal) Error() string { return "node " + strconv.Itoa(r.node) + ": " + r.why.Error() }

func (r refusal) Unwrap() error { return r.why }

// refused is a node's error; nil, if that is none.
func refused(i int, e api.Errno) error {
	if e == api.OK {
		return nil
	}
	return refusal{i, e}
}

// Step does a step: why it came to nothing.
func (c *Cluster) Step(s api.Step) api.Errno {
	if !c.made() {
		return api.ErrNil
	}
	c.now++
	var why api.Errno
	errors.As(c.step(s), &why)
	return why
}

// step has whom it is about do a step.
func (c *Cluster) step(s api.Step) error {
	switch s.Kind {
	case api.SAsk, api.SAgain, api.SQuit:
		if s.Hand >= 0 && s.Hand < api.MaxHands && isNode(s.Node) {
			return c.stepHand(s)
		}
	case api.STick, api.SPack, api.SRoster, api.SHand, api.SCrash, api.SArm, api.SStart:
		if isNode(s.Node) {
			return c.stepNode(s)
		}
	case api.STake, api.SLose, api.SDouble:
		if at := c.find(s.N); at >= 0 {
			return c.stepMail(s.Kind, at)
		}
	case api.SWall:
		c.wall = s.N & (1<<api.MaxNodes - 1)
		return nil
	}
	return api.ErrStep
}

// stepHand is a client's step.
func (c *Cluster) stepHand(s api.Step) error {
	switch {
	case s.Kind == api.SAsk:
		return c.begun(s)
	case c.hands[s.Hand].call == 0:
		return api.ErrStep
	case s.Kind == api.SAgain:
		c.ask(s.Hand, s.Node)
	default:
		c.quit(s.Hand)
	}
	return nil
}

// begun has a client begin a call.
func (c *Cluster) begun(s api.Step) error {
	h, k := &c.hands[s.Hand], s.Command
	counts := machine.Counts(k.Kind)
	if h.call != 0 || k.Session != 0 || k.Seq != 0 || k.Kind == api.CRoster || counts && h.session == 0 {
		return api.ErrStep
	}
	if counts {
		k.Session, k.Seq = h.session, h.counted+1
	}
	data, e := machine.Put(k)
	if e != api.OK {
		return e
	}
	if counts {
		h.counted++
	}
	c.begin(s.Hand, s.Command, data)
	c.ask(s.Hand, s.Node)
	return nil
}

// ask has a client ask a node for its call. It is told nothing of what comes of that: it may ask again.
func (c *Cluster) ask(h, i int) {
	n := c.places[i].node
	if n == nil {
		return
	}
	c.takeOf(h)
	if c.waiting(h).Command.Kind == api.CNone {
		c.reads++
		c.want(ticket{hand: h, node: i, read: c.reads}, api.Input{Kind: api.IRead, ID: c.reads})
		return
	}
	if s := n.State(); s.Role == api.Leading {
		index := s.Base.Index + len(s.Rows) + 1
		c.want(ticket{hand: h, node: i, index: index, term: s.Hard.Term}, api.Input{Kind: api.IWrite, Data: c.hands[h].data})
	}
}

// want has a node do what a client has a ticket for.
func (c *Cluster) want(t ticket, in api.Input) {
	c.tickets = append(c.tickets, t)
	if c.does(t.node, in) != nil {
		c.takeOf(t.hand)
	}
}

// quit has a client wait no more: whether its command is done it can't tell, so its session is no use to it.
func (c *Cluster) quit(h int) {
	c.answer(h, 0, api.Reply{Err: api.ErrStep}, nil)
	c.takeOf(h)
	c.hands[h] = hand{}
}

// stepNode is a node's step.
func (c *Cluster) stepNode(s api.Step) error {
	p := c.places[s.Node]
	runs := p.node != nil
	if runs == (s.Kind == api.SStart) {
		return api.ErrNode
	}
	switch s.Kind {
	case api.STick:
		return c.does(s.Node, api.Input{Kind: api.ITick, Timeout: s.Timeout})
	case api.SPack:
		return c.does(s.Node, api.Input{Kind: api.IPack})
	case api.SRoster:
		return c.does(s.Node, api.Input{Kind: api.IRoster, Roster: s.Roster})
	case api.SHand:
		return c.does(s.Node, api.Input{Kind: api.IHand, Node: s.Other})
	case api.SArm:
		return refused(s.Node, p.disk.Arm(s.N, s.Keep, s.Tear))
	case api.SCrash:
		p.disk.Crash(s.Keep, s.Tear)
		c.stop(s.Node)
	case api.SStart:
		p.disk.Start()
		return refused(s.Node, c.open(s.Node, s.Timeout))
	}
	return nil
}

// stepMail is a step of the message that stands somewhere.
func (c *Cluster) stepMail(kind, at int) error {
	if kind == api.SDouble {
		if c.full() {
			return api.ErrFull
		}
		c.post(c.letters[at].msg)
		return nil
	}
	m := c.pull(at)
	if kind == api.STake && c.reaches(m) {
		c.does(m.To, api.Input{Kind: api.IMsg, Msg: m})
	}
	return nil
}

// reaches tells whether a message comes to a node that runs.
func (c *Cluster) reaches(m api.Msg) bool {
	return c.places[m.To].node != nil && c.wall>>m.From&1 == c.wall>>m.To&1
}

// does has a node do an input: what it sends is on its way, and whom it can answer is answered.
func (c *Cluster) does(i int, in api.Input) error {
	n := c.places[i].node
	done := n.Do(in)
	if done.Err == api.ErrDown || done.Err == api.ErrNil {
		c.stop(i)
	}
	if done.Err != api.OK {
		return refusal{i, done.Err}
	}
	for _, m := range done.Send {
		c.post(m)
	}
	for _, a := range done.Answers {
		c.settle(i, a)
	}
	for _, k := range done.Reads {
		c.show(k.ID, n.Machine())
	}
	return nil
}
