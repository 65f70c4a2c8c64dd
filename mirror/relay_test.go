package mirror

import (
	"math"
	"strings"
	"testing"

	"tidemark/api"
)

// bare are all the relay's moves but RForget, of which none needs anything else.
var bare = []int{api.ROpen, api.RSub, api.RLook, api.RReset, api.RPull, api.RPush, api.RAck, api.RLearn, api.RAgain, api.RDrop}

// knows holds what the relay knows.
func (d *duo) knows(want api.Relay) {
	d.t.Helper()
	same(d.t, "relay", d.m.Relay(), want)
}

// P22.2: what can't be asked for want of what it knows.
func TestWants(t *testing.T) {
	d := lone(t, "")
	for _, kind := range []int{api.RReset, api.RPull, api.RPush, api.RAck, api.RAgain, api.RDrop} {
		d.refuses(relayed(kind), api.ErrStep)
	}
	d.does(relayed(api.RLook)) // without a subscriber what it saw is no beginning
	d.refuses(relayed(api.RReset), api.ErrStep)
	d.does(relayed(api.RSub))
	d.knows(api.Relay{Sub: 1, From: 4})
	for _, kind := range []int{api.RReset, api.RPull, api.RPush, api.RAck, api.RAgain} {
		d.refuses(relayed(kind), api.ErrStep)
	}
	d.does(relayed(api.RLearn)) // the mark is 0
	d.knows(api.Relay{Sub: 1, From: 4})
	d.refuses(relayed(api.RPull), api.ErrStep)
	d.does(relayed(api.RLook), relayed(api.RReset))
	d.knows(api.Relay{Sub: 1, From: 4, At: 4, Known: true})
	for _, kind := range []int{api.RReset, api.RPush, api.RAgain} {
		d.refuses(relayed(kind), api.ErrStep)
	}
	d.does(relayed(api.RPull)) // nothing is above
	d.knows(api.Relay{Sub: 1, From: 4, At: 4, Known: true})
	d.refuses(relayed(api.RPush), api.ErrStep)
	d.does(relayed(api.RAck)) // that is an entry, too
	d.does(relayed(api.RPull))
	d.knows(api.Relay{Sub: 1, From: 4, At: 4, Known: true, To: 5})
	d.refuses(relayed(api.RPull), api.ErrStep) // it has a batch
	d.does(relayed(api.RPush))
	d.knows(api.Relay{Sub: 1, From: 4, At: 5, Known: true})
	d.does(relayed(api.RDrop))
	d.knows(api.Relay{})
	for _, kind := range []int{api.RReset, api.RPull, api.RPush, api.RAck, api.RDrop} {
		d.refuses(relayed(kind), api.ErrStep)
	}
	d.does(relayed(api.RLearn)) // where the mirror is it can learn all the same
	d.knows(api.Relay{At: 5, Known: true})
	d.refuses(relayed(api.RPull), api.ErrStep)
	d.refuses(relayed(api.RAck), api.ErrStep)
}

// P22.2: a look from ahead of where the subscriber began is no beginning; one from just there is.
func TestLookAheadOfFrom(t *testing.T) {
	d := newDuo(t, of(0, 1), of(0), "")
	d.leads(0, 0)
	d.leads(1, 0)
	d.does(relayed(api.ROpen))
	d.come(0)
	d.does(relayed(api.RSub))
	d.come(0)
	d.does(relayed(api.RLook))
	d.come(0)
	d.knows(api.Relay{Sub: 1, From: 3, Seen: 3})
	d.m.from, d.n.from = 4, 4
	d.refuses(relayed(api.RReset), api.ErrStep)
	d.m.from, d.n.from = 3, 3
	d.does(relayed(api.RReset))
	d.knows(api.Relay{Sub: 1, From: 3, At: 3, Known: true})
}

// P22.2: what it is asked for reaches a cluster, whose error is told: no session, no such node.
func TestClustersErrors(t *testing.T) {
	d := newDuo(t, of(0), of(0), "")
	d.leads(0, 0)
	d.leads(1, 0)
	d.refuses(relayed(api.RSub), api.ErrStep)
	for _, node := range []int{-1, 5, math.MinInt, math.MaxInt} {
		for _, kind := range []int{api.ROpen, api.RLook, api.RLearn} {
			d.refuses(api.Move{Kind: kind, Node: node}, api.ErrStep)
		}
	}
	d.does(relayed(api.ROpen), relayed(api.RSub), relayed(api.RLook), relayed(api.RReset))
	same(t, "each was a step", [2]int{d.last(0).Began, d.last(1).Began}, [2]int{3 + 1 + 8 + 3, 3 + 4 + 1})
	for _, node := range []int{-1, 5, math.MinInt, math.MaxInt} {
		d.refuses(api.Move{Kind: api.RPull, Node: node}, api.ErrNode)
		d.refuses(api.Move{Kind: api.RAck, Node: node}, api.ErrStep)
		d.refuses(api.Move{Kind: api.RDrop, Node: node}, api.ErrStep)
	}
	d.does(relayed(api.RForget))
	d.refuses(relayed(api.RAck), api.ErrStep) // At is not known
	d.does(relayed(api.RLearn), crash(0, 0))
	d.refuses(relayed(api.RPull), api.ErrNode)
	d.refuses(api.Move{Kind: api.RPull, Node: 1}, api.ErrFeed) // it knows nobody, and has nothing
}

// P22.2: of each side it has one call at most; the other side's is none of its.
func TestBusy(t *testing.T) {
	d := newDuo(t, of(0, 1), of(0, 1), "")
	d.leads(0, 0)
	d.leads(1, 0)
	source := []int{api.ROpen, api.RSub, api.RLook}
	d.does(relayed(api.ROpen))
	for _, kind := range source {
		d.refuses(relayed(kind), api.ErrBusy)
		d.refuses(api.Move{Kind: kind, Node: -1}, api.ErrBusy)
	}
	d.does(relayed(api.RLearn))
	d.refuses(relayed(api.RLearn), api.ErrBusy)
	d.come(0)
	d.refuses(relayed(api.RLearn), api.ErrBusy)
	d.does(relayed(api.RSub))
	d.refuses(relayed(api.RSub), api.ErrBusy)
	d.come(0)
	d.come(1)
	d.does(relayed(api.RLook))
	d.come(0)
	d.does(relayed(api.RReset))
	d.refuses(relayed(api.RReset), api.ErrBusy)
	d.does(ask(0, 0, opens))
	d.come(0)
	d.does(relayed(api.RDrop))
	d.refuses(relayed(api.RDrop), api.ErrBusy)
	d.come(1)
	d.refuses(relayed(api.RAck), api.ErrBusy)
	d.does(relayed(api.RPull), relayed(api.RPush))
	d.refuses(relayed(api.RPush), api.ErrBusy)
	d.refuses(relayed(api.RPull), api.ErrStep) // it has that batch still
	for _, kind := range bare {
		if kind == api.RReset || kind == api.RPull { // it saw nothing; it has a batch
			continue
		}
		if e := d.move(relayed(kind)); e != api.ErrBusy && kind != api.RAgain {
			t.Error(kind, e)
		}
	}
}

// P22.2: RSub: what it wants; at an error it knows what it knew, else nothing but that.
func TestSub(t *testing.T) {
	for prefix, want := range map[string]api.Filter{"": {}, "a b": {Kind: api.FPrefix, Text: "a b"}} {
		d := following(t, prefix)
		same(t, "filter", d.m.Side(0).Node(0).Machine().Subs(), []api.Sub{{ID: 1, From: 4, At: 4, Filter: want}})
		d.does(ask(0, 0, writes(op("a b", "1"))), relayed(api.RPull), relayed(api.RLook))
		d.knows(api.Relay{Sub: 1, From: 4, At: 4, Known: true, Seen: 5, To: 5})
		d.does(relayed(api.RSub))
		d.knows(api.Relay{Sub: 2, From: 6})
		d.does(relayed(api.RSub), relayed(api.RSub))
		d.knows(api.Relay{Sub: 4, From: 8})
		d.does(relayed(api.RLook), relayed(api.RLearn))
		d.does(relayed(api.RSub)) // there are four
		same(t, "refused", d.last(0).Reply.Err, api.ErrFull)
		d.knows(api.Relay{Sub: 4, From: 8, At: 4, Known: true, Seen: 8})
	}
}

// P22.2: RReset: the keys that begin with the prefix, as they were seen; what it saw is used up, a batch, too.
func TestReset(t *testing.T) {
	d := lone(t, "ab")
	d.does(ask(0, 0, writes(op("a", "0"), op("ab", "1"), op("abc", "2"), op("ac", "3"), op("b ab", "4"))))
	d.does(relayed(api.RSub), relayed(api.RLook), ask(0, 0, writes(op("ab", "9"))))
	d.does(relayed(api.RReset))
	same(t, "seen", d.keys(1, 0), []api.Op{op("ab", "1"), op("abc", "2")})
	d.knows(api.Relay{Sub: 1, From: 5, At: 5, Known: true})
	d.does(relayed(api.RPull), relayed(api.RLook), relayed(api.RReset))
	same(t, "seen", d.keys(1, 0), []api.Op{op("ab", "9"), op("abc", "2")})
	d.knows(api.Relay{Sub: 1, From: 5, At: 6, Known: true})
	d.does(ask(0, 0, writes(gone("ab"), gone("abc"))), relayed(api.RLook), relayed(api.RReset))
	same(t, "none is left", d.keys(1, 0), nil)
	d.knows(api.Relay{Sub: 1, From: 5, At: 7, Known: true})
}

// P22.2: a reset that comes late changes nothing; the relay learns how far the mirror is.
func TestLateReset(t *testing.T) {
	d := following(t, "")
	d.does(ask(0, 0, writes(op("a", "1"))), relayed(api.RLook))
	d.does(ask(0, 0, writes(op("a", "2"))), relayed(api.RPull), relayed(api.RPush))
	d.knows(api.Relay{Sub: 1, From: 4, At: 6, Known: true, Seen: 5})
	d.does(relayed(api.RReset))
	d.knows(api.Relay{Sub: 1, From: 4, At: 6, Known: true})
	same(t, "as it was", d.keys(1, 0), []api.Op{op("a", "2")})
}

// P22.2: RPull: whole places, at most eight events, unless the first one has more; what it is not told of passes, too.
func TestPull(t *testing.T) {
	d := following(t, "a")
	d.does(ask(0, 0, writes(op("b", "1"))), ask(0, 1, opens)) // 5 and 6: nothing for it
	d.does(relayed(api.RPull))
	d.knows(api.Relay{Sub: 1, From: 4, At: 4, Known: true, To: 6})
	d.does(relayed(api.RPush))
	batch := func() api.Command { return d.last(1).Command }
	same(t, "no key", batch(), api.Command{Kind: api.CApply, From: 4, Pos: 6})
	d.knows(api.Relay{Sub: 1, From: 4, At: 6, Known: true})
	d.does(ask(0, 0, writes(op("a1", "1"), op("b", "2"), op("a2", "1"), op("a3", "1"), op("a4", "1")))) // 7
	d.does(ask(0, 0, writes(gone("a1"), op("a2", "2"), op("a3", "2"), op("a4", "2"))))                  // 8
	d.does(ask(0, 0, writes(op("a5", "1"))))                                                            // 9
	d.does(relayed(api.RPull))
	d.knows(api.Relay{Sub: 1, From: 4, At: 6, Known: true, To: 8})
	d.does(relayed(api.RPush))
	same(t, "eight", batch(), api.Command{Kind: api.CApply, From: 6, Pos: 8, Ops: []api.Op{op("a1", "1"), op("a2", "1"), op("a3", "1"), op("a4", "1"), gone("a1"), op("a2", "2"), op("a3", "2"), op("a4", "2")}})
	same(t, "keys", d.keys(1, 0), []api.Op{op("a2", "2"), op("a3", "2"), op("a4", "2")})
	d.does(relayed(api.RPull), relayed(api.RPush))
	d.knows(api.Relay{Sub: 1, From: 4, At: 9, Known: true})
	var many []api.Op
	for _, s := range strings.Split("abcdefghij", "") {
		many = append(many, op("a"+s, "1"))
	}
	d.does(ask(0, 0, api.Command{Kind: api.CApply, Pos: 1, Ops: many}), ask(0, 0, writes(op("aa", "2")))) // ten events at 10
	d.does(relayed(api.RPull))
	d.knows(api.Relay{Sub: 1, From: 4, At: 9, Known: true, To: 10})
	d.does(relayed(api.RPush), relayed(api.RPull), relayed(api.RPush))
	same(t, "keys", d.keys(1, 0), d.keys(0, 0)[:14])
}

// P22.2: RPull at a subscriber that was let go: it knows nothing but its calls.
func TestLetGo(t *testing.T) {
	d := following(t, "")
	d.does(relayed(api.RLook))
	for i := range 6 {
		d.does(ask(0, 0, writes(op("a", strings.Repeat("1", i+1)), op("b", strings.Repeat("2", i+1)), op("c", strings.Repeat("3", i+1)), op("d", strings.Repeat("4", i+1)), op("e", strings.Repeat("5", i+1)), op("f", strings.Repeat("6", i+1)))))
	}
	d.does(crash(1, 0), relayed(api.RLearn)) // a call that is not answered
	d.knows(api.Relay{Sub: 1, From: 4, At: 4, Known: true, Seen: 4})
	if e := d.move(relayed(api.RPull)); e != api.ErrEvicted {
		t.Fatal(e)
	}
	d.knows(api.Relay{})
	d.refuses(relayed(api.RPull), api.ErrStep)
	d.refuses(relayed(api.RLearn), api.ErrBusy)
	d.does(start(1, 0))
	d.leads(1, 0)
	d.does(api.Move{Kind: api.RAgain, Side: 1})
	d.knows(api.Relay{At: 4, Known: true})
	d.does(relayed(api.RSub), relayed(api.RLook), relayed(api.RReset))
	d.knows(api.Relay{Sub: 2, From: 11, At: 11, Known: true})
	same(t, "keys", d.keys(1, 0), d.keys(0, 0))
}

// P22.2: RPull behind what it acknowledged itself, or another one for it: ErrBack; one that is no more: ErrFeed, and it forgets nothing.
func TestPullErrors(t *testing.T) {
	d := following(t, "")
	d.does(ask(0, 0, writes(op("a", "1"))), ask(0, 0, api.Command{Kind: api.CAck, Sub: 1, Pos: 5}), relayed(api.RLook))
	if e := d.move(relayed(api.RPull)); e != api.ErrBack {
		t.Fatal(e)
	}
	d.knows(api.Relay{})
	d.does(relayed(api.RSub), relayed(api.RLook), relayed(api.RReset), relayed(api.RLook))
	was := d.m.Relay()
	d.does(ask(0, 0, api.Command{Kind: api.CUnsub, Sub: 2}))
	d.refuses(relayed(api.RPull), api.ErrFeed)
	d.knows(was)
	d.does(relayed(api.RDrop)) // there is none any more, so that is answered by an error, and comes to the same
	same(t, "refused", d.last(0).Reply.Err, api.ErrFeed)
	d.knows(api.Relay{})
}

// P22.2: RPull at a node that is not as far as the mirror: its error, and it forgets nothing.
func TestPullBehind(t *testing.T) {
	d := newDuo(t, of(0, 1, 2), of(0), "")
	d.leads(0, 0)
	d.leads(1, 0)
	at2 := api.Move{Kind: api.RPull, Node: 2}
	carry := func(kinds ...int) {
		for _, kind := range kinds {
			d.does(relayed(kind))
			d.come(0)
		}
	}
	carry(api.ROpen, api.RSub, api.RLook, api.RReset)
	d.refuses(api.Move{Kind: api.RPull, Node: 4}, api.ErrFeed) // it knows nobody
	d.does(at2)
	d.knows(api.Relay{Sub: 1, From: 3, At: 3, Known: true})
	d.does(wall(0, 1<<2))
	carry(api.RAck, api.RPull, api.RPush)
	was := api.Relay{Sub: 1, From: 3, At: 4, Known: true}
	d.knows(was)
	d.refuses(at2, api.ErrRange)
	d.knows(was)
}

// P22.2: a batch that is applied twice: the mark says that it was done. One that does not go on from there changes nothing, and the relay learns where that is.
func TestLateBatch(t *testing.T) {
	d := newDuo(t, of(0), of(0, 1), "")
	d.leads(0, 0)
	d.leads(1, 0)
	d.does(ask(0, 0, opens), relayed(api.ROpen), relayed(api.RSub), relayed(api.RLook), relayed(api.RReset))
	d.come(1)
	again := api.Move{Kind: api.RAgain, Side: 1}
	d.does(ask(0, 0, writes(op("a", "1"))), relayed(api.RPull), relayed(api.RPush), again, again)
	d.come(1)
	d.does(ask(0, 0, writes(op("a", "2"))), relayed(api.RPull), relayed(api.RPush))
	d.does(relayed(api.RForget)) // its entry is on its way
	d.knows(api.Relay{Sub: 1, From: 4})
	d.does(relayed(api.RLearn))
	d.come(1)
	d.knows(api.Relay{Sub: 1, From: 4, At: 6, Known: true})
	d.m.at, d.n.at = 5, new(int) // as if it had learned that ahead of the batch
	*d.n.at = 5
	d.does(ask(0, 0, writes(op("a", "3"))), relayed(api.RPull))
	d.knows(api.Relay{Sub: 1, From: 4, At: 5, Known: true, To: 7})
	d.does(relayed(api.RPush))
	d.come(1)
	same(t, "does not go on from there", d.last(1).Reply, api.Reply{Err: api.ErrMark, N: 6})
	d.knows(api.Relay{Sub: 1, From: 4, At: 6, Known: true})
	same(t, "keys", d.keys(1, 0), []api.Op{op("a", "2")})
	d.does(relayed(api.RPull), relayed(api.RPush))
	d.come(1)
	same(t, "keys", d.keys(1, 0), []api.Op{op("a", "3")})
	same(t, "entries", d.m.Side(1).Node(0).Machine().At(), 1+1+3+1+1+1)
}

// P22.2: RAck has the source keep no more than the mirror lacks.
func TestAck(t *testing.T) {
	d := following(t, "")
	d.does(ask(0, 0, writes(op("a", "1"))), ask(0, 0, writes(op("b", "1"))), relayed(api.RPull), relayed(api.RPush))
	d.does(ask(0, 0, writes(op("c", "1"))), relayed(api.RPull), relayed(api.RAck))
	same(t, "asked", d.last(0).Command, api.Command{Kind: api.CAck, Sub: 1, Pos: 6})
	d.knows(api.Relay{Sub: 1, From: 4, At: 6, Known: true, To: 7})
	same(t, "cursor", d.m.Side(0).Node(0).Machine().Subs(), []api.Sub{{ID: 1, From: 4, At: 6}})
	d.does(relayed(api.RAck), relayed(api.RPush))
	d.knows(api.Relay{Sub: 1, From: 4, At: 7, Known: true})
}

// P22.2: RLearn: a batch that it had is no more.
func TestLearn(t *testing.T) {
	d := following(t, "")
	d.does(ask(0, 0, writes(op("a", "1"))), relayed(api.RPull), relayed(api.RLook), relayed(api.RLearn))
	d.knows(api.Relay{Sub: 1, From: 4, At: 4, Known: true, Seen: 5})
	d.does(relayed(api.RPull))
	d.knows(api.Relay{Sub: 1, From: 4, At: 4, Known: true, Seen: 5, To: 5})
}

// P22.2: RAgain asks another node for the same.
func TestAgain(t *testing.T) {
	d := newDuo(t, of(0, 1), of(0, 1, 2), "")
	d.leads(0, 0)
	d.leads(1, 0)
	again := func(side, node int) api.Move { return api.Move{Kind: api.RAgain, Side: side, Node: node} }
	d.refuses(again(0, 0), api.ErrStep)
	d.does(api.Move{Kind: api.ROpen, Node: 1})
	d.refuses(again(1, 0), api.ErrStep)
	for _, node := range []int{-1, 5, math.MinInt, math.MaxInt} {
		d.refuses(again(0, node), api.ErrStep)
	}
	d.does(again(0, 1))
	same(t, "in vain", d.m.Side(0).Waiting(), nil)
	d.does(again(0, 0))
	d.come(0)
	d.refuses(again(0, 0), api.ErrStep) // it was answered
	d.does(api.Move{Kind: api.RSub, Node: 1}, again(0, 0))
	d.come(0)
	d.knows(api.Relay{Sub: 1, From: 3})
	d.does(api.Move{Kind: api.RLearn, Node: 2}, again(1, 0))
	d.come(1)
	d.refuses(again(1, 0), api.ErrStep)
}

// P22.2: RForget quits what was not answered, and is told nothing of that any more.
func TestForget(t *testing.T) {
	d := newDuo(t, of(0, 1), of(0, 1), "")
	d.leads(0, 0)
	d.leads(1, 0)
	d.does(relayed(api.RForget))
	for _, kind := range []int{api.ROpen, api.RSub, api.RLook} {
		d.does(relayed(kind))
		d.come(0)
	}
	d.does(relayed(api.RReset))
	d.come(1)
	d.does(relayed(api.RLook))
	d.come(0)
	d.does(relayed(api.RAck), relayed(api.RLearn), relayed(api.RForget))
	d.knows(api.Relay{Sub: 1, From: 3})
	for side := range 2 {
		same(t, "quit", d.last(side).Reply, api.Reply{Err: api.ErrStep})
		d.come(side)
	}
	d.knows(api.Relay{Sub: 1, From: 3})
	for side := range 2 {
		d.refuses(api.Move{Kind: api.RAgain, Side: side}, api.ErrStep)
	}
	d.does(relayed(api.RLearn))
	d.come(1)
	d.knows(api.Relay{Sub: 1, From: 3, At: 3, Known: true})
	d.refuses(relayed(api.RAck), api.ErrStep) // its session went with the call
	d.does(relayed(api.ROpen))
	d.come(0)
	d.does(relayed(api.RAck), relayed(api.RPull), relayed(api.RForget), relayed(api.RForget))
	d.knows(api.Relay{Sub: 1, From: 3})
	// A subscriber that it wanted, and was not told of, is nobody's.
	d.does(relayed(api.ROpen))
	d.come(0)
	d.does(relayed(api.RSub), relayed(api.RForget))
	d.come(0)
	d.knows(api.Relay{Sub: 1, From: 3})
	same(t, "subscribers", len(d.m.Side(0).Node(0).Machine().Subs()), 2)
}

// P22.2: a call that a step of the cluster itself had answered is heeded behind the next move, and keeps nobody busy.
func TestAnsweredElsewhere(t *testing.T) {
	m, e := New(of(0, 1), of(0), "")
	ok(t, e)
	source, steps := m.Side(0), 0
	step := func(s api.Step) {
		steps++
		ok(t, source.Step(s))
	}
	come := func() {
		for l := source.Waiting(); len(l) > 0; l = source.Waiting() {
			step(api.Step{Kind: api.STake, N: l[0]})
		}
	}
	asks := func(kind int) {
		steps++
		ok(t, m.Move(relayed(kind)))
	}
	for range 3 {
		step(api.Step{Kind: api.STick})
	}
	come()
	asks(api.ROpen)
	come()
	asks(api.RSub)
	come()
	same(t, "not heeded yet", m.Relay(), api.Relay{})
	asks(api.RLook)
	same(t, "heeded", m.Relay(), api.Relay{Sub: 1, From: 3})
	come()
	ok(t, m.Move(relayed(api.RForget)))
	same(t, "forgotten", m.Relay(), api.Relay{Sub: 1, From: 3})
	asks(api.RLook)
	calls := source.Calls()
	if k := calls[2]; k.Reply.Err != api.OK || k.Index != 3 {
		t.Error("what was answered was quit", k)
	}
	if k := calls[3]; k.Began != steps {
		t.Error("what was answered was to be quit", k, steps)
	}
	come()
	same(t, "a move that is none", m.Move(api.Move{}), api.ErrStep)
	same(t, "heeded", m.Relay(), api.Relay{Sub: 1, From: 3, Seen: 3})
}
