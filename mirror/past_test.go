package mirror

import (
	"bytes"
	"slices"
	"strings"
	"testing"

	"tidemark/api"
	"tidemark/kv"
	"tidemark/machine"
	"tidemark/node"
	"tidemark/views"
)

// past is the one order that a side chose, and what it gives behind each place, from 0 on.
type past struct {
	t       *testing.T
	m       *machine.Machine
	order   []api.Entry // the first one stands at 1: none is at 0
	replies []api.Reply
	images  [][]byte
	keys    [][]api.Op
	marks   []int
	done    map[[2]int]bool // sessions' numbers
	gone    int             // how often a subscriber was met that was let go
}

func newPast(t *testing.T) *past {
	m := machine.New()
	return &past{t: t, m: m, order: make([]api.Entry, 1), replies: make([]api.Reply, 1), images: [][]byte{m.Image()}, keys: make([][]api.Op, 1), marks: make([]int, 1), done: map[[2]int]bool{}}
}

func (p *past) end() int { return len(p.order) - 1 }

// add does the next entry, and holds what is to hold of each.
func (p *past) add(x api.Entry) {
	p.t.Helper()
	was := p.keys[p.end()]
	r := p.m.Apply(x.Index, x.Data)
	p.order, p.replies, p.images = append(p.order, x), append(p.replies, r), append(p.images, p.m.Image())
	p.keys, p.marks = append(p.keys, p.m.Keys("", "")), append(p.marks, p.m.Mark())
	c, e := machine.Get(x.Data)
	ok(p.t, e)
	if id := [2]int{c.Session, c.Seq}; machine.Counts(c.Kind) {
		if p.done[id] {
			same(p.t, "P1: done once more", p.m.Keys("", ""), was)
		}
		p.done[id] = p.done[id] || r.Err == api.OK
	}
	if r.Err == api.ErrOver {
		same(p.t, "P2: beyond 64 bits", p.m.Keys("", ""), was)
	}
	if n := p.end(); p.marks[n] < p.marks[n-1] {
		p.t.Fatal("P22.3: a mark falls", show(c))
	}
}

// holds holds that a node has committed nothing else, and is what that makes (P1); that its views are true (P2), its feeds exact (P4).
func (p *past) holds(n *node.Node) {
	p.t.Helper()
	s, m := n.State(), n.Machine()
	for _, x := range s.Rows {
		if x.Index <= s.Commit && x.Index == p.end()+1 {
			p.add(x)
		}
		if x.Index <= s.Commit && (p.order[x.Index].Term != x.Term || !bytes.Equal(p.order[x.Index].Data, x.Data)) {
			p.t.Fatalf("P1: another entry: %s, not %s", show(x), show(p.order[x.Index]))
		}
	}
	if m.At() != s.Commit || !bytes.Equal(m.Image(), p.images[s.Commit]) {
		p.t.Fatalf("P1: another machine at %d", s.Commit)
	}
	for _, v := range m.Views() {
		got, e := m.Rows(v.Name)
		want, e1 := views.Of(v, m.Keys("", ""))
		ok(p.t, e, e1)
		same(p.t, "P2", got, want)
	}
	for _, s := range m.Subs() {
		p.exact(m, s)
	}
}

// begin is those keys that begin with a text.
func begin(l []api.Op, prefix string) []api.Op {
	return slices.DeleteFunc(slices.Clone(l), func(o api.Op) bool { return !strings.HasPrefix(o.Key, prefix) })
}

// exact holds P4: what a subscriber is told at a node, done to what was behind a place, comes place by place to what was there.
func (p *past) exact(m *machine.Machine, s api.Sub) {
	p.t.Helper()
	for after := s.At; after <= m.At(); after += 1 + (m.At()-s.At)/3 {
		l, to, e := m.Read(s.ID, after, []int{8, 99}[after%2])
		if s.Gone {
			same(p.t, "P4: let go", e, api.ErrEvicted)
			p.gone++
			continue
		}
		ok(p.t, e)
		keys := kv.New()
		ok(p.t, keys.Set(begin(p.keys[after], s.Filter.Text)))
		for at := after + 1; at <= to; at++ {
			for len(l) > 0 && l[0].Pos == at {
				old, had := keys.Get(l[0].Key)
				if x := l[0]; x.Had != had || x.Old != old || x.Had == x.Has && x.Old == x.Now {
					p.t.Fatalf("P4: that was not changed: %s", show(x))
				}
				keys.Take(l[0])
				l = l[1:]
			}
			same(p.t, "P4", keys.Scan("", ""), begin(p.keys[at], s.Filter.Text))
		}
		if len(l) > 0 || to < after || after%2 == 1 && to != m.At() {
			p.t.Fatalf("P4: up to %d of %d: %s", to, m.At(), show(l))
		}
	}
}

// answered holds that a call was answered as the order gives it, and that a look sees what was answered ahead of it (P1).
func (p *past) answered(k api.Call, all []api.Call) {
	p.t.Helper()
	if k.Reply.Err == api.ErrStep {
		return // it was quit
	}
	if k.Command.Kind != api.CNone {
		c, e := machine.Get(p.order[k.Index].Data)
		ok(p.t, e)
		c.Session, c.Seq = 0, 0
		same(p.t, "P1: its command", c, k.Command)
		same(p.t, "P1: its reply", k.Reply, p.replies[k.Index])
		return
	}
	same(p.t, "P1: a look", k.Map, p.keys[k.Index])
	same(p.t, "P1: a look", k.Reply, api.Reply{N: p.marks[k.Index]})
	for _, was := range all {
		if was.Ended > 0 && was.Ended < k.Began && was.Index > k.Index {
			p.t.Fatalf("P1: a look does not see what was answered: %s, %s", show(k), show(was))
		}
	}
}
