package console

import (
	"tidemark/api"
	"tidemark/cluster"
	"tidemark/digest"
	"tidemark/machine"
	"tidemark/node"
	"tidemark/query"
)

const (
	// sourceSide is the cluster that clients write to, mirrorSide the one that follows it.
	sourceSide = 0
	mirrorSide = 1
	// mostEvents is how many a line tells, unless one place alone has more.
	mostEvents = 100
)

// play does what a line says: what it answers.
func (p *script) play(l line) string {
	if v, ok := l.move(); ok {
		return outcome(p.mirror.Move(v))
	}
	n := l.numbers
	switch l.word {
	case "knows":
		return relay(p.mirror.Relay())
	case "compare":
		return compare(p.mirror.Side(sourceSide).Node(n[0]), p.mirror.Side(mirrorSide).Node(n[1]))
	}
	c := p.mirror.Side(n[0])
	switch {
	case c == nil:
		return outcome(api.ErrStep)
	case l.word == "carry":
		return p.carry(c, n[0], n[1])
	case l.word == "calls":
		return calls(c.Calls())
	case l.word == "way":
		return told("way", digits(c.Waiting()...)...)
	}
	x := c.Node(n[1])
	if x == nil {
		return outcome(api.ErrNode)
	}
	return l.asked(x)
}

// carry has the first message of a side come, so many times.
func (p *script) carry(c *cluster.Cluster, side, times int) string {
	for range times {
		way := c.Waiting()
		if len(way) == 0 {
			break
		}
		p.mirror.Move(at(side, api.Step{Kind: api.STake, N: way[0]}))
	}
	return outcome(api.OK)
}

// compare is what two nodes have not alike.
func compare(a, b *node.Node) string {
	if a == nil || b == nil {
		return outcome(api.ErrNode)
	}
	l, talk, _ := digest.Unlike(digests(a.Machine()), digests(b.Machine())) // both are of one seed
	return each(told("compare", digits(talk.Digests, talk.Pairs)...), l, func(key string) []string {
		return []string{unspaced(key)}
	})
}

// digests are those of all that a machine has.
func digests(m *machine.Machine) *digest.Tree {
	var l []api.Pair
	for _, o := range m.Keys("", "") {
		l = append(l, api.Pair{Key: o.Key, Value: o.Value})
	}
	return digest.Of(api.Seed{}, l...)
}

// asked is what a node answers to a line.
func (l line) asked(x *node.Node) string {
	m := x.Machine()
	switch l.word {
	case "keys":
		return keys(m.Keys("", ""))
	case "groups":
		return groups(m.Groups())
	case "rows":
		some, e := m.Rows(l.texts[0])
		return rows("rows", some, e)
	case "query":
		some, _, e := query.Ask(l.question, m)
		return rows("query", some, e)
	case "plan":
		_, how, e := query.Ask(l.question, m)
		return plan(how, e)
	case "feed":
		some, to, e := m.Read(l.numbers[2], l.numbers[3], mostEvents)
		return events("feed", to, some, e)
	case "poll":
		some, to, e := m.Poll(l.texts[0], l.numbers[2], l.numbers[3], mostEvents)
		return events("poll", to, some, e)
	}
	return state(x.State(), m.Mark(), m.Image())
}
