package sess

import (
	"bytes"
	"slices"

	"tidemark/api"
)

// model forgets no session, and no reply: kept[i] is what the numbers 1, 2, .. of a session that is open were answered.
type model struct {
	begun int
	kept  map[int][]api.Reply
}

func newModel() *model { return &model{kept: map[int][]api.Reply{}} }

func (m *model) open() (int, api.Errno) {
	if len(m.kept) == 8 {
		return 0, 7
	}
	m.begun++
	m.kept[m.begun] = []api.Reply{}
	return m.begun, 0
}

func (m *model) close(session int) api.Errno {
	if m.kept[session] == nil {
		return 90
	}
	delete(m.kept, session)
	return 0
}

func (m *model) ask(session, seq int) (api.Reply, bool, api.Errno) {
	l := m.kept[session]
	switch {
	case l == nil:
		return api.Reply{}, false, 90
	case seq < 1 || seq < len(l):
		return api.Reply{}, false, 91
	case seq == len(l):
		return l[seq-1], false, 0
	case seq > len(l)+1:
		return api.Reply{}, false, 92
	}
	return api.Reply{}, true, 0
}

func (m *model) keep(session, seq int, r api.Reply) api.Errno {
	_, fresh, e := m.ask(session, seq)
	if e == 0 && !fresh {
		e = 91
	}
	if e == 0 {
		m.kept[session] = append(m.kept[session], r)
	}
	return e
}

func (m *model) list() []api.Seat {
	var l []api.Seat
	for session := range m.begun + 1 {
		if kept := m.kept[session]; len(kept) > 0 {
			l = append(l, api.Seat{Session: session, Seq: len(kept), Reply: kept[len(kept)-1]})
		} else if kept != nil {
			l = append(l, api.Seat{Session: session})
		}
	}
	return l
}

func modelNumber(n int) []byte {
	var b []byte
	for ; n > 0; n /= 256 {
		b = append([]byte{byte(n)}, b...)
	}
	return append([]byte{byte(len(b))}, b...)
}

// modelPut is the bytes of a table that has just these, whether it may be or not.
func modelPut(begun int, l ...api.Seat) []byte {
	b := slices.Concat(modelNumber(begun), modelNumber(len(l)))
	for _, s := range l {
		b = bytes.Join([][]byte{b, modelNumber(s.Session), modelNumber(s.Seq), modelNumber(int(s.Reply.Err)), modelNumber(s.Reply.N)}, nil)
	}
	return b
}
