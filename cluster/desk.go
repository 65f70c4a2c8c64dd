package cluster

import (
	"slices"

	"tidemark/api"
	"tidemark/machine"
)

// hand is a client.
type hand struct {
	session int // 0: none
	counted int
	call    int    // which of all calls it waits for, from 1 on; 0: none
	data    []byte // that one's command, with the session and the number
}

// ticket is by what a node knows which client to answer: an entry's index and term, or a read's number.
type ticket struct {
	hand, node  int
	index, term int
	read        int // 0: it is an entry's
}

// desk is all that clients want, and who is to be answered.
type desk struct {
	hands   [api.MaxHands]hand
	calls   []api.Call // the commands as they were asked
	tickets []ticket
	reads   int // the last one's number
	now     int // the step's number
}

// take takes the tickets away of which something holds.
func (d *desk) take(gone func(ticket) bool) []ticket {
	var l []ticket
	d.tickets = slices.DeleteFunc(d.tickets, func(t ticket) bool {
		if !gone(t) {
			return false
		}
		l = append(l, t)
		return true
	})
	return l
}

// takeOf takes a client's tickets away.
func (d *desk) takeOf(h int) { d.take(func(t ticket) bool { return t.hand == h }) }

// begin has a client wait for a new call.
func (d *desk) begin(h int, c api.Command, data []byte) {
	d.calls = append(d.calls, api.Call{Hand: h, Command: ownCommand(c), Began: d.now})
	d.hands[h].call, d.hands[h].data = len(d.calls), data
}

// waiting is the call that a client waits for.
func (d *desk) waiting(h int) *api.Call { return &d.calls[d.hands[h].call-1] }

// answer is what came of a client's call.
func (d *desk) answer(h, index int, r api.Reply, keys []api.Op) {
	k := d.waiting(h)
	k.Ended, k.Index, k.Reply, k.Map = d.now, index, r, keys
	d.hands[h].call, d.hands[h].data = 0, nil
	if k.Command.Kind == api.COpen && r.Err == api.OK {
		d.hands[h] = hand{session: r.N}
	}
}

// settle answers who waits for an entry at a node; where another one stands now, nobody can tell what came of it.
func (d *desk) settle(i int, a api.Answer) {
	for _, t := range d.take(func(t ticket) bool { return t.node == i && t.index == a.Index }) {
		if t.term == a.Term {
			d.answer(t.hand, a.Index, a.Reply, nil)
		}
	}
}

// show answers who waits for a read with all that a machine has.
func (d *desk) show(read int, m *machine.Machine) {
	for _, t := range d.take(func(t ticket) bool { return t.read > 0 && t.read == read }) {
		d.answer(t.hand, m.At(), api.Reply{N: m.Mark()}, m.Keys("", ""))
	}
}
