package group

import (
	"slices"

	"tidemark/api"
	"tidemark/wire"
)

// Put is all of it behind bytes.
func (g *Groups) Put(b []byte) []byte {
	if !g.ready() {
		return slices.Clone(b)
	}
	out := wire.Number(b, len(g.list))
	for _, x := range g.list {
		out = append(out, groupBytes(x)...)
	}
	return out
}

func groupBytes(x api.Group) []byte {
	b := wire.Numbers(wire.Text(nil, x.Name), x.Sub, x.Term, x.Next, len(x.Members))
	b = wire.Number(wire.Numbers(b, x.Members...), len(x.Owners))
	return wire.Numbers(wire.Numbers(b, x.Owners...), x.At...)
}

// Get reads groups; false: there are none such.
func Get(r *wire.Reader) (*Groups, bool) {
	g := New()
	for range r.Within(0, api.MaxGroups) {
		x := getGroup(r)
		if _, e := g.find(x.Name); e == api.OK || !may(x) {
			return nil, false
		}
		g.list = append(g.list, x)
	}
	if r.Err() != api.OK {
		return nil, false
	}
	return g, true
}

// may tells whether a group may be whose numbers, each by itself, may.
func may(x api.Group) bool {
	return Check(x.Name, len(x.Owners)) == api.OK && slices.Equal(x.Owners, Share(x.Owners, x.Members))
}

// getGroup reads a group; the reader tells whether its numbers may be.
func getGroup(r *wire.Reader) api.Group {
	x := api.Group{Name: r.Text(api.MaxField), Sub: r.Within(1, api.MaxIndex), Term: r.Within(0, api.MaxIndex), Next: r.Within(1, api.MaxIndex)}
	member := 0
	for range r.Within(0, api.MaxTeam) {
		member = r.Within(member+1, x.Next-1)
		x.Members = append(x.Members, member)
	}
	parts := r.Within(1, api.MaxParts)
	x.Owners = getNumbers(r, parts)
	x.At = getNumbers(r, parts)
	return x
}

func getNumbers(r *wire.Reader, n int) []int {
	var l []int
	for range n {
		l = append(l, r.Within(0, api.MaxIndex))
	}
	return l
}
