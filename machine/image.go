package machine

import (
	"bytes"

	"tidemark/api"
	"tidemark/feed"
	"tidemark/group"
	"tidemark/kv"
	"tidemark/sess"
	"tidemark/views"
	"tidemark/wire"
)

// Image is all of it as bytes.
func (m *Machine) Image() []byte {
	if !m.made() {
		return nil
	}
	b := kv.Put(wire.Numbers(nil, m.at, m.mark), m.keys.Scan("", ""))
	l := m.views.List()
	b = wire.Number(b, len(l))
	for _, w := range l {
		b = views.Put(b, w)
	}
	return m.groups.Put(m.seats.Put(m.feed.Put(b)))
}

// Load is the machine of which some bytes are the image.
func Load(b []byte) (*Machine, api.Errno) {
	r := wire.Read(b)
	m := New()
	m.at, m.mark = r.Within(0, api.MaxIndex), r.Within(0, api.MaxIndex)
	// What could be read is no image yet: its keys may stand in another order, or something behind it.
	if !m.load(r) || m.feed.Top() != m.at || !bytes.Equal(m.Image(), b) {
		return nil, api.ErrCommand
	}
	return m, api.OK
}

// load reads all parts; false: they can't be.
func (p *parts) load(r *wire.Reader) bool {
	keys := kv.Get(r, api.MaxKeys)
	var l []api.View
	for range r.Within(0, api.MaxViews) {
		l = append(l, views.Get(r))
	}
	if p.keys.Set(keys) != api.OK || p.views.Set(l, keys) != api.OK {
		return false
	}
	var there [3]bool
	p.feed, there[0] = feed.Get(r)
	p.seats, there[1] = sess.Get(r)
	p.groups, there[2] = group.Get(r)
	return there == [3]bool{true, true, true}
}
