package mirror

import (
	"errors"
	"slices"
	"strconv"

	"tidemark/api"
)

const (
	// relayHand is the client of both clusters that the relay is.
	relayHand = 2
	// pullMost is how many events a batch takes, unless one place alone has more.
	pullMost = 8
)

// refusal is why a side came to nothing with what it was to do.
type refusal struct {
	side int
	why  api.Errno
}

func (r refusal) Error() string { return "side " + strconv.Itoa(r.side) + ": " + r.why.Error() }

func (r refusal) Unwrap() error { return r.why }

// Move does a move: why it came to nothing.
func (m *Mirror) Move(v api.Move) api.Errno {
	if !m.made() {
		return api.ErrNil
	}
	var why api.Errno
	errors.As(m.move(v), &why)
	m.heed()
	return why
}

func (m *Mirror) move(v api.Move) error {
	switch v.Kind {
	case api.RCluster:
		return m.drive(v.Side, v.Step)
	case api.RForget:
		m.forget()
		return nil
	case api.RPull:
		return m.pull(v.Node)
	case api.RAgain:
		return m.again(v.Side, v.Node)
	}
	c, side, ok := m.wanted(v.Kind)
	if !ok {
		return api.ErrStep
	}
	return m.ask(v.Kind, side, v.Node, c)
}

// step has a side do a step.
func (m *Mirror) step(side int, s api.Step) error {
	if e := m.clusters[side].Step(s); e != api.OK {
		return refusal{side, e}
	}
	return nil
}

// drive has a side do a step that is not the relay's.
func (m *Mirror) drive(side int, s api.Step) error {
	if !isSide(side) {
		return api.ErrStep
	}
	switch s.Kind {
	case api.SAsk, api.SAgain, api.SQuit:
		// The mirror has what the source had, and nothing else: its other clients may but look.
		if s.Hand >= relayHand || side == mirrorSide && s.Command.Kind != api.CNone {
			return api.ErrStep
		}
	}
	return m.step(side, s)
}

// ask has the relay ask a node of a side.
func (m *Mirror) ask(kind, side, node int, c api.Command) error {
	m.heed() // a call may have been answered by a step of the cluster itself: it waits no more, and isn't to be forgotten
	if m.asked[side] != 0 {
		return api.ErrBusy
	}
	if e := m.step(side, api.Step{Kind: api.SAsk, Hand: relayHand, Node: node, Command: c}); e != nil {
		return e
	}
	m.asked[side] = kind
	return nil
}

// again has the relay ask a node for the call that a side did not answer.
func (m *Mirror) again(side, node int) error {
	if !isSide(side) || m.asked[side] == 0 {
		return api.ErrStep
	}
	return m.step(side, api.Step{Kind: api.SAgain, Hand: relayHand, Node: node})
}

// forget has the relay know its subscriber alone.
func (m *Mirror) forget() {
	for side, kind := range m.asked {
		if kind == 0 {
			continue
		}
		if _, ok := m.answered(side); !ok {
			m.clusters[side].Step(api.Step{Kind: api.SQuit, Hand: relayHand})
		}
		m.asked[side] = 0
	}
	m.known = known{sub: m.sub, from: m.from}
}

// pull has the relay read what changed behind where the mirror is.
func (m *Mirror) pull(i int) error {
	if m.sub == 0 || m.at == 0 || m.batch.Pos > 0 {
		return api.ErrStep
	}
	n := m.clusters[sourceSide].Node(i)
	if n == nil {
		return api.ErrNode
	}
	l, to, e := n.Machine().Read(m.sub, m.at, pullMost)
	switch {
	case e == api.ErrEvicted || e == api.ErrBack:
		// What it would need is not kept any more: it has to begin anew.
		m.known = known{}
		return refusal{sourceSide, e}
	case e != api.OK:
		return refusal{sourceSide, e}
	case to > m.at:
		m.fill(to, l)
	}
	return nil
}

// answered is the relay's last call of a side, if that was answered.
func (m *Mirror) answered(side int) (api.Call, bool) {
	for _, k := range slices.Backward(m.clusters[side].Calls()) {
		if k.Hand == relayHand {
			return k, k.Ended > 0
		}
	}
	return api.Call{}, false
}

// heed has the relay learn from its calls that were answered.
func (m *Mirror) heed() {
	for side, kind := range m.asked {
		if kind == 0 {
			continue
		}
		if k, ok := m.answered(side); ok {
			m.asked[side] = 0
			m.learn(kind, k)
		}
	}
}
