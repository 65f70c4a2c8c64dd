package machine

import (
	"tidemark/api"
	"tidemark/filter"
	"tidemark/kv"
	"tidemark/views"
	"tidemark/wire"
)

// Put is a command as bytes.
func Put(c api.Command) ([]byte, api.Errno) {
	if e := Check(c); e != api.OK {
		return nil, e
	}
	b := wire.Numbers(nil, c.Kind, c.Session, c.Seq, c.Sub, c.Pos, c.From, c.Part)
	b = views.Put(kv.Put(kv.Put(b, c.Conds), c.Ops), c.View)
	f, _ := filter.Put(c.Filter) // no command that may be has a filter that may not
	b = append(b, f...)
	for _, l := range [...][]int{c.Roster.Voters, c.Roster.Learners} {
		b = wire.Numbers(wire.Number(b, len(l)), l...)
	}
	if len(b) > api.MaxData {
		return nil, api.ErrLong
	}
	return b, api.OK
}

// Get is the command of which some bytes are.
func Get(b []byte) (api.Command, api.Errno) {
	if len(b) > api.MaxData {
		return api.Command{}, api.ErrCommand
	}
	r := wire.Read(b)
	c := api.Command{Kind: r.Number(), Session: r.Number(), Seq: r.Number(), Sub: r.Number(), Pos: r.Number(), From: r.Number(), Part: r.Number()}
	c.Conds, c.Ops = kv.Get(r, api.MaxOps), kv.Get(r, api.MaxEvents)
	c.View = views.Get(r)
	f, ok := filter.Take(r)
	c.Filter = f
	c.Roster.Voters = getNodes(r)
	c.Roster.Learners = getNodes(r)
	if !ok || r.End() != api.OK || Check(c) != api.OK {
		return api.Command{}, api.ErrCommand
	}
	return c, api.OK
}

// getNodes reads a list of a roster.
func getNodes(r *wire.Reader) []int {
	var l []int
	for range r.Within(0, api.MaxNodes) {
		l = append(l, r.Number())
	}
	return l
}
