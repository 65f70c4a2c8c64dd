package save

import (
	"fmt"
	"math/rand"
	"slices"
	"strings"
	"testing"

	"tidemark/api"
	"tidemark/disk"
	"tidemark/wire"
)

// model is what is to be kept.
type model struct {
	hard api.Hard
	base api.Base
	rows []api.Entry
}

// String tells two models apart by all that can be told.
func (m model) String() string {
	s := fmt.Sprintf("%d %d; %d %d %v %v %q;", m.hard.Term, m.hard.Vote, m.base.Index, m.base.Term, slices.Concat(m.base.Roster.Voters), slices.Concat(m.base.Roster.Learners), m.base.Data)
	for _, e := range m.rows {
		s += fmt.Sprintf(" %d %d %q", e.Index, e.Term, e.Data)
	}
	return s
}

func (m model) last() int { return m.base.Index + len(m.rows) }

func (m model) setHard(h api.Hard) model {
	m.hard = h
	return m
}

func (m model) add(l ...api.Entry) model {
	m.rows = slices.Concat(m.rows, l)
	return m
}

func (m model) cut(i int) model {
	m.rows = slices.Clone(m.rows[:i-m.base.Index-1])
	return m
}

func (m model) rebase(b api.Base) model {
	var rows []api.Entry
	there := false
	for _, e := range m.rows {
		if e.Index > b.Index {
			rows = append(rows, e)
		}
		there = there || e.Index == b.Index && e.Term == b.Term
	}
	if !there {
		rows = nil
	}
	return model{m.hard, b, rows}
}

// slot is a slot's bytes, frame by frame as the chapter says.
func (m model) slot(gen int) []byte {
	head := wire.Numbers(nil, 1, gen, m.hard.Term, m.hard.Vote, m.base.Index, m.base.Term, len(m.base.Data), len(m.rows))
	for _, l := range [][]int{m.base.Roster.Voters, m.base.Roster.Learners} {
		head = wire.Number(head, len(l))
		for _, n := range l {
			head = wire.Number(head, n)
		}
	}
	l := [][]byte{head}
	for data := m.base.Data; len(data) > 0; {
		n := min(len(data), 16384)
		l = append(l, piece(string(data[:n])))
		data = data[n:]
	}
	for _, e := range m.rows {
		l = append(l, rowOf(e.Index, e.Term, string(e.Data)))
	}
	return framed(append(l, wire.Numbers(nil, 4))...)
}

// piece, rowOf are payloads of kinds 2 and 3; numbers makes all others.
func piece(s string) []byte { return wire.Text(wire.Number(nil, 2), s) }

func rowOf(index, term int, data string) []byte {
	return wire.Text(wire.Numbers(nil, 3, index, term), data)
}

func numbers(l ...int) []byte { return wire.Numbers(nil, l...) }

// framed is payloads as frames, one behind the other.
func framed(l ...[]byte) []byte {
	var b []byte
	for _, p := range l {
		f, e := wire.Frame(p)
		if e != api.OK {
			panic(e)
		}
		b = append(b, f...)
	}
	return b
}

func entry(index, term int, data string) api.Entry {
	return api.Entry{Index: index, Term: term, Data: []byte(data)}
}

func base(index, term int, data string) api.Base {
	return api.Base{Index: index, Term: term, Data: []byte(data), Roster: api.Roster{Voters: []int{0, 2, 4}, Learners: []int{1}}}
}

// laid is a disk on which these bytes lie, and last.
func laid(t *testing.T, slot0, slot1, tape []byte) *disk.Disk {
	t.Helper()
	d := empty(t, api.MaxRoom)
	ok(t, d.Slot(0, slot0), d.Slot(1, slot1), d.Append(tape), d.Sync())
	return d
}

func empty(t *testing.T, room int) *disk.Disk {
	t.Helper()
	d, e := disk.New(room)
	ok(t, e)
	return d
}

func ok(t *testing.T, l ...api.Errno) {
	t.Helper()
	for i, e := range l {
		if e != api.OK {
			t.Fatalf("call %d: %d", i, e)
		}
	}
}

func open(t *testing.T, d *disk.Disk) *Save {
	t.Helper()
	s, e := Open(d)
	if s == nil || e != api.OK {
		t.Fatalf("Open: %d", e)
	}
	return s
}

// told is what a Save tells.
func told(s *Save) model { return model{s.Hard(), s.Base(), s.Rows()} }

func same(t *testing.T, what string, s *Save, m model) {
	t.Helper()
	if got := told(s); got.String() != m.String() {
		t.Fatalf("%s: %.300s, not %.300s", what, got, m)
	}
}

// lies holds that just these bytes lie on a disk.
func lies(t *testing.T, what string, d *disk.Disk, slot0, slot1, tape []byte) {
	t.Helper()
	a, e := d.Look(0)
	ok(t, e)
	b, e := d.Look(1)
	ok(t, e)
	c, e := d.Tape()
	ok(t, e)
	for i, l := range [][2]string{{string(a), string(slot0)}, {string(b), string(slot1)}, {string(c), string(tape)}} {
		if l[0] != l[1] {
			t.Fatalf("%s: in %d lies %.200x, not %.200x", what, i, l[0], l[1])
		}
	}
}

// reopened is what is opened behind a crash of which all that waits, or nothing, lasts.
func reopened(t *testing.T, d *disk.Disk, keep int) *Save {
	t.Helper()
	ok(t, d.Crash(keep, 0), d.Start())
	return open(t, d)
}

// call is one of a Save: what it does, and what may be kept behind it, or behind a part of it.
type call struct {
	do     func(s *Save) api.Errno
	states []model
	lasts  bool // behind it all is kept for good
}

func (c call) end() model { return c.states[len(c.states)-1] }

// someCalls is random calls, none of which is refused.
func someCalls(r *rand.Rand, n int) []call {
	var l []call
	var m model
	for range n {
		c := someCall(r, m)
		l = append(l, c)
		m = c.end()
	}
	return l
}

func someCall(r *rand.Rand, m model) call {
	switch k := r.Intn(12); {
	case k < 2:
		h := api.Hard{Term: r.Intn(9), Vote: r.Intn(6)}
		return call{do: func(s *Save) api.Errno { return s.SetHard(h) }, states: []model{m.setHard(h)}}
	case k < 6:
		var add []api.Entry
		var states []model
		for i := range 1 + r.Intn(3) {
			add = append(add, entry(m.last()+1+i, 1+r.Intn(3), strings.Repeat("x", r.Intn(4))))
			states = append(states, m.add(add...))
		}
		return call{do: func(s *Save) api.Errno { return s.Add(add...) }, states: states}
	case k < 8 && len(m.rows) > 0:
		i := m.base.Index + 1 + r.Intn(len(m.rows))
		return call{do: func(s *Save) api.Errno { return s.Cut(i) }, states: []model{m.cut(i)}}
	case k < 9:
		b := base(m.base.Index+1+r.Intn(len(m.rows)+2), 1+r.Intn(3), "data")
		return call{do: func(s *Save) api.Errno { return s.Rebase(b) }, states: []model{m.rebase(b)}, lasts: true}
	}
	return call{do: func(s *Save) api.Errno { return s.Sync() }, states: []model{m}, lasts: true}
}
