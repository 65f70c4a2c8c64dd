package cluster

import (
	"slices"

	"tidemark/api"
)

// letter is a message on its way.
type letter struct {
	id  int
	msg api.Msg
}

// mail is all messages on their way, in order.
type mail struct {
	letters []letter
	posted  int // the last one's number
}

func (m *mail) full() bool { return len(m.letters) >= api.MaxBag }

// post puts a message behind all others; where there is no room it is lost, but had its number.
func (m *mail) post(msg api.Msg) {
	m.posted++
	if !m.full() {
		m.letters = append(m.letters, letter{m.posted, msg})
	}
}

// find is where a message stands; -1: it is not on its way.
func (m *mail) find(id int) int {
	return slices.IndexFunc(m.letters, func(l letter) bool { return l.id == id })
}

// pull takes a message off its way.
func (m *mail) pull(at int) api.Msg {
	msg := m.letters[at].msg
	m.letters = slices.Delete(m.letters, at, at+1)
	return msg
}
