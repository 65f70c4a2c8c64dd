package cluster

import (
	"slices"
	"strings"
	"testing"

	"tidemark/api"
)

// P21.2: STick, SPack, SRoster, SHand: the node's error.
func TestNodesErrors(t *testing.T) {
	p := newPair(t, of(some(0, 1, 2)))
	p.refuses(api.Step{Kind: api.SPack}, api.ErrRows)
	p.refuses(api.Step{Kind: api.SRoster, Roster: of(some(0, 1))}, api.ErrLeader)
	p.refuses(api.Step{Kind: api.SHand, Other: 1}, api.ErrLeader)
	p.leads(0)
	p.refuses(api.Step{Kind: api.SRoster, Roster: of(some(0, 0))}, api.ErrRoster)
	p.refuses(api.Step{Kind: api.SRoster, Roster: of(some(1, 2))}, api.ErrChange)
	p.refuses(api.Step{Kind: api.SHand, Other: 0}, api.ErrRoster)
	p.refuses(api.Step{Kind: api.SHand, Other: -9}, api.ErrRoster)
	p.does(api.Step{Kind: api.SRoster, Roster: of(some(0, 1, 2), 3)})
	p.refuses(api.Step{Kind: api.SRoster, Roster: of(some(0, 1, 2))}, api.ErrBusy)
	p.refuses(api.Step{Kind: api.SHand, Other: 1}, api.ErrBusy)
	p.all()
	p.does(api.Step{Kind: api.SPack})
	if s := p.c.Node(0).State(); s.Base.Index != 2 || len(s.Rows) != 0 {
		t.Fatal(s)
	}
	p.does(api.Step{Kind: api.SHand, Other: 1})
	p.all()
	if s := p.c.Node(1).State(); s.Role != api.Leading {
		t.Fatal(s)
	}
	p.does(crash(4))
	for kind := api.SAsk; kind <= api.SWall; kind++ {
		switch kind {
		case api.STick, api.SPack, api.SRoster, api.SHand, api.SCrash, api.SArm:
			p.refuses(api.Step{Kind: kind, Node: 4, N: -1}, api.ErrNode)
		}
	}
	p.refuses(start(0), api.ErrNode)
	p.does(start(4))
	p.refuses(start(4), api.ErrNode)
}

// P21.2: STick's Timeout, and SStart's.
func TestTimeouts(t *testing.T) {
	p := newPair(t, of(some(0, 1, 2)))
	p.does(tick(0), tick(0), api.Step{Kind: api.STick, Timeout: 33})
	if s := p.c.Node(0).State(); s.Timeout != 33 || s.Timer != 0 || s.Role != api.Asking {
		t.Error(s)
	}
	p.does(crash(0), api.Step{Kind: api.SStart, Timeout: 44})
	if s := p.c.Node(0).State(); s.Timeout != 44 || s.Role != api.Follower {
		t.Error(s)
	}
	p.does(crash(0), api.Step{Kind: api.SStart, Timeout: -44})
	if s := p.c.Node(0).State(); s.Timeout != 1 || !alike(s.Base.Roster, of(some(0, 1, 2))) {
		t.Error(s)
	}
	p.does(crash(4), start(4))
	same(t, "it knows nobody", p.c.Node(4).State().Base.Roster, api.Roster{})
}

// P21.2: STake, SLose, SDouble
func TestMessages(t *testing.T) {
	p := newPair(t, of(some(0, 1, 2)))
	p.does(tick(0), tick(0), tick(0))
	p.does(api.Step{Kind: api.SDouble, N: 1})
	same(t, "doubled", p.c.Waiting(), some(1, 2, 3))
	first, _ := p.c.Peek(1)
	second, _ := p.c.Peek(3)
	same(t, "the same", second, first)
	p.does(take(3))
	same(t, "taken", p.c.Waiting(), some(1, 2, 4))
	p.does(api.Step{Kind: api.SLose, N: 2})
	p.refuses(api.Step{Kind: api.SLose, N: 2}, api.ErrStep)
	p.refuses(take(3), api.ErrStep)
	p.refuses(api.Step{Kind: api.SDouble, N: 5}, api.ErrStep)
	same(t, "lost", p.c.Waiting(), some(1, 4))
	p.does(crash(1), take(1)) // nobody is there
	same(t, "gone", p.c.Waiting(), some(4))
	p.does(start(1), take(4))
	if s := p.c.Node(0).State(); s.Role != api.Standing {
		t.Fatal(s)
	}
}

// P21.2: a message that a wall stands ahead of is lost when it is taken, not ahead of that.
func TestWall(t *testing.T) {
	for _, c := range []struct {
		wall int
		over bool
	}{{0, true}, {1, false}, {2, false}, {3, true}, {31, true}, {30, false}, {29, false}, {28, true}, {-1, true}, {-2, false}, {32, true}, {33, false}, {1 << 40, true}, {-1 << 63, true}, {-1<<63 | 1, false}} {
		p := newPair(t, of(some(0, 1)))
		p.does(tick(0), tick(0), tick(0), wall(c.wall), take(1))
		if over := len(p.c.Waiting()) == 1; over != c.over {
			t.Error(c, over)
		}
	}
	p := newPair(t, of(some(0, 1)))
	p.does(wall(1), tick(0), tick(0), tick(0), wall(0), take(1))
	same(t, "no wall any more", p.c.Waiting(), some(2))
}

// P21.1, P21.2: at most 200 messages are on their way.
func TestBag(t *testing.T) {
	p := newPair(t, of(some(0, 1, 2)))
	p.leads(0)
	double := func(id int) api.Step { return api.Step{Kind: api.SDouble, N: id} }
	p.does(tick(0))
	id := p.c.Waiting()[0]
	for len(p.c.Waiting()) < 199 {
		p.does(double(id))
	}
	l := p.c.Waiting()
	last := l[len(l)-1]
	p.does(tick(0)) // one of its two messages is lost
	l = append(l, last+1)
	same(t, "full", p.c.Waiting(), l)
	p.refuses(double(id), api.ErrFull)
	p.refuses(double(last+2), api.ErrStep) // it was lost
	p.does(tick(0))
	same(t, "full", p.c.Waiting(), l)
	p.does(api.Step{Kind: api.SLose, N: id}, double(last))
	same(t, "each had its number", p.c.Waiting(), append(l[1:], last+5))
	p.does(take(last))
	same(t, "an answer has room", len(p.c.Waiting()), 200)
}

// tickets tell who waits at a node: it is gone when that crashes, though the entry is committed later on.
func TestTicketsOfACrash(t *testing.T) {
	p := newPair(t, of(some(0, 1)))
	p.leads(0)
	p.does(ask(0, 0, opens), ask(1, 0, api.Command{}), crash(0), start(0))
	p.leads(0)
	if n := p.c.Node(0).State().Commit; n != 3 {
		t.Fatal(n)
	}
	for _, k := range p.c.Calls() {
		if k.Ended != 0 {
			t.Fatal(k)
		}
	}
	p.does(again(0, 0))
	p.all()
	if k := p.c.Calls()[0]; k.Index != 4 || k.Reply != (api.Reply{N: 2}) { // its first session is nobody's
		t.Fatal(k)
	}
}

// P21.1: who asked a node is answered by that one alone, though another one has done the entry already.
func TestTicketsOfAnotherNode(t *testing.T) {
	p := newPair(t, of(some(0, 1, 2)))
	p.leads(0)
	p.does(ask(0, 0, opens))
	for _, id := range p.c.Waiting() {
		p.does(take(id))
	}
	p.does(wall(1))
	p.all() // what they say that they have is lost
	p.leads(1)
	if n := p.c.Node(1).Machine().At(); n != 3 {
		t.Fatal(n)
	}
	p.unanswered()
	p.does(wall(0), tick(1))
	p.all()
	p.answeredAt(2, api.Reply{N: 1})
}

// P21.1: where another entry came to stand, nobody is told.
func TestTicketsOfAnotherTerm(t *testing.T) {
	p := newPair(t, of(some(0, 1, 2)))
	p.leads(0)
	p.does(wall(1), ask(0, 0, opens))
	p.all()
	p.leads(1) // its first entry is the second one
	p.does(ask(1, 1, api.Command{Kind: api.CApply, Pos: 5}))
	p.all()
	p.answeredAt(3, api.Reply{N: 5})
	p.does(wall(0), tick(1))
	p.all()
	if s := p.c.Node(0).State(); s.Commit != 3 || p.c.Calls()[0].Ended != 0 {
		t.Fatal(s)
	}
	// The ticket is gone: the same node, leading again, answers it by another one alone.
	p.does(again(0, 1))
	p.all()
	if k := p.c.Calls()[0]; k.Index != 4 || k.Reply != (api.Reply{N: 1}) {
		t.Fatal(k)
	}
}

func (p *pair) answeredAt(index int, r api.Reply) {
	p.t.Helper()
	if k := p.call(); k.Ended == 0 || k.Index != index || k.Reply != r {
		p.t.Fatalf("%s", show(k))
	}
}

// An entry that a base brought answers nobody; its ticket waits on, till the client asks anew.
func TestTicketsOfABase(t *testing.T) {
	p := newPair(t, of(some(0, 1, 2)))
	p.leads(0)
	p.does(wall(1), ask(0, 0, opens))
	p.all()
	p.leads(1)
	p.does(ask(1, 1, opens))
	p.all()
	p.does(api.Step{Kind: api.SPack, Node: 1}, wall(0), tick(1))
	p.all()
	if s := p.c.Node(0).State(); s.Base.Index != 3 || p.c.Calls()[0].Ended != 0 {
		t.Fatal(s)
	}
	p.does(api.Step{Kind: api.SHand, Node: 1, Other: 0})
	p.all()
	p.does(again(0, 0))
	p.all()
	if k := p.c.Calls()[0]; k.Index != 5 || k.Reply != (api.Reply{N: 2}) {
		t.Fatal(k)
	}
}

// P21.2: SArm: the power goes in what the node does; who took a message is not told why.
func TestArm(t *testing.T) {
	p := newPair(t, of(some(0, 1)))
	arm := func(i, n int) api.Step { return api.Step{Kind: api.SArm, Node: i, N: n} }
	p.refuses(arm(0, -1), api.ErrArg)
	p.leads(0)
	p.does(arm(0, 1), tick(0)) // nothing goes to the disk by that
	p.does(arm(0, 0), arm(1, 1))
	p.all()
	p.does(ask(0, 0, opens))
	p.all()
	if p.c.Node(1) != nil {
		t.Fatal("it runs")
	}
	p.does(arm(0, 1), again(0, 0))
	if p.c.Node(0) != nil {
		t.Fatal("it runs")
	}
	p.unanswered()
	p.does(start(0), start(1))
	p.leads(0)
	p.unanswered() // its ticket went with the power
	lone := newPair(t, of(some(0)))
	lone.does(arm(0, 2), tick(0), tick(0))
	if e := lone.step(tick(0)); e != api.ErrDown || lone.c.Node(0) != nil {
		t.Fatal(e)
	}
	lone.refuses(tick(0), api.ErrNode)
	lone.does(start(0))
	lone.leads(0)
}

// What finds no room stands still, and runs no more when it is asked again.
func TestFullDisk(t *testing.T) {
	p := newPair(t, of(some(0)))
	p.leads(0)
	big := api.Command{Kind: api.CApply, Pos: 1}
	for i := range 24 {
		big.Ops = append(big.Ops, api.Op{Key: strings.Repeat(string(rune(0x10000+i)), 24), Has: true, Value: strings.Repeat("\U00010000", 48)})
	}
	n := p.c.Node(0)
	for i := 0; p.c.Calls() == nil || p.call().Ended > 0; i++ {
		if i%8 == 0 { // so that the roster is soon found
			ok(t, p.c.Step(api.Step{Kind: api.SRoster, Roster: of(some(0), 1)}), p.c.Step(api.Step{Kind: api.SRoster, Roster: of(some(0))}))
		}
		ok(t, p.c.Step(ask(0, 0, big)))
	}
	if p.c.Node(0) != n || n.State().Role != api.Leading {
		t.Fatal("it does not run")
	}
	if e := p.c.Step(api.Step{Kind: api.SPack}); e != api.ErrNil || p.c.Node(0) != nil {
		t.Fatal(e)
	}
	rows, size := len(n.State().Rows), 0
	for _, e := range n.State().Rows {
		size += len(e.Data)
	}
	if size < 1<<22-20000 || size > 1<<22 {
		t.Fatal("another room", size)
	}
	ok(t, p.c.Step(start(0)))
	if l := p.c.Node(0).State().Rows; len(l) != rows {
		t.Fatal(len(l), rows)
	}
	holdsNoRoom(t, p.c)
}

// holdsNoRoom holds that a node that would have to lay anew what its power left torn, and finds no room, does not run.
func holdsNoRoom(t *testing.T, c *Cluster) {
	t.Helper()
	ok(t, c.Step(api.Step{Kind: api.SArm, N: 1, Tear: 5}))
	e := api.OK
	for range 10 {
		if e == api.OK {
			e = c.Step(tick(0))
		}
	}
	if e != api.ErrDown {
		t.Fatal(e)
	}
	for range 2 {
		if e := c.Step(start(0)); e != api.ErrFull || c.Node(0) != nil {
			t.Fatal(e)
		}
	}
	if e := c.Step(tick(0)); e != api.ErrNode {
		t.Fatal(e)
	}
}

// What is handed in is neither changed nor kept; what is told is new memory.
func TestMemory(t *testing.T) {
	voters := some(9, 0, 9)
	learners := some(1, 9)
	c, e := New(api.Roster{Voters: voters[1:2], Learners: learners[:1]})
	ok(t, e)
	clear(voters)
	clear(learners)
	ok(t, c.Step(crash(1)), c.Step(start(1)))
	same(t, "first", c.Node(1).State().Base.Roster, of(some(0), 1))
	for range 3 {
		ok(t, c.Step(tick(0)))
	}
	ops := []api.Op{{Key: "a", Has: true, Value: "1"}, {Key: "b", Has: true, Value: "2"}}
	ok(t, c.Step(ask(0, 0, opens)), c.Step(ask(0, 0, api.Command{Kind: api.CWrite, Conds: []api.Op{{Key: "z"}}, Ops: ops[:1]})))
	if ops[1].Key != "b" {
		t.Fatal("changed")
	}
	clear(ops)
	kids := []api.Filter{{Kind: api.FPut}, {Kind: api.FNot, Kids: []api.Filter{{Kind: api.FAll}}}}
	ok(t, c.Step(ask(0, 0, api.Command{Kind: api.CSub, Filter: api.Filter{Kind: api.FAnd, Kids: kids}})))
	kids[1].Kids[0].Kind = api.FPut
	clear(kids)
	ok(t, c.Step(ask(0, 0, api.Command{})))
	want := func() []api.Call {
		op := func(key string, has bool, value string) api.Op { return api.Op{Key: key, Has: has, Value: value} }
		return []api.Call{
			{Command: opens, Began: 6, Ended: 6, Index: 2, Reply: api.Reply{N: 1}},
			{Command: api.Command{Kind: api.CWrite, Conds: []api.Op{{Key: "z"}}, Ops: []api.Op{op("a", true, "1")}}, Began: 7, Ended: 7, Index: 3},
			{Command: api.Command{Kind: api.CSub, Filter: api.Filter{Kind: api.FAnd, Kids: []api.Filter{{Kind: api.FPut}, {Kind: api.FNot, Kids: []api.Filter{{Kind: api.FAll}}}}}}, Began: 8, Ended: 8, Index: 4, Reply: api.Reply{N: 1}},
			{Began: 9, Ended: 9, Index: 4, Map: []api.Op{op("a", true, "1")}},
		}
	}
	for range 2 {
		l := c.Calls()
		same(t, "calls", l, want())
		clear(l[1].Command.Ops[:cap(l[1].Command.Ops)])
		clear(l[1].Command.Conds)
		clear(l[2].Command.Filter.Kids[1].Kids)
		clear(l[2].Command.Filter.Kids)
		clear(l[3].Map[:cap(l[3].Map)])
		clear(l[:cap(l)])
		way := c.Waiting()
		if len(way) == 0 {
			t.Fatal("none on its way")
		}
		was := slices.Clone(way)
		clear(way[:cap(way)])
		same(t, "way", c.Waiting(), was)
	}
	holdsMessages(t, c)
}

// holdsMessages holds that what Peek tells is new memory, of a base too.
func holdsMessages(t *testing.T, c *Cluster) {
	t.Helper()
	ok(t, c.Step(api.Step{Kind: api.SPack}))
	for _, id := range c.Waiting() {
		ok(t, c.Step(take(id)))
	}
	ok(t, c.Step(crash(1)), c.Step(start(1)), c.Step(tick(0)))
	rows, pieces := 0, 0
	for _, id := range c.Waiting() {
		m, e := c.Peek(id)
		ok(t, e)
		want := tidy(m)
		rows, pieces = rows+len(m.Rows), pieces+len(m.Base.Data)
		for _, r := range m.Rows {
			clear(r.Data[:cap(r.Data)])
		}
		clear(m.Rows[:cap(m.Rows)])
		clear(m.Base.Data[:cap(m.Base.Data)])
		for _, l := range [][]int{m.Base.Roster.Voters, m.Base.Roster.Learners} {
			for i := range l {
				l[i] = 99
			}
		}
		got, _ := c.Peek(id)
		same(t, "message", got, want)
	}
	if rows == 0 && pieces == 0 {
		t.Fatal("nothing was there")
	}
	other, _ := New(of(some(0)))
	if len(other.Calls()) > 0 || len(other.Waiting()) > 0 || other.Node(0).Machine().At() > 0 {
		t.Fatal("two clusters know of one another")
	}
}

// SAsk's look has the mark, and its map, as the machine has them then.
func TestLookAtAMirror(t *testing.T) {
	p := newPair(t, of(some(0)))
	p.leads(0)
	for i := range 3 {
		p.does(ask(1, 0, api.Command{Kind: api.CApply, From: i, Pos: i + 1, Ops: puts(strings.Repeat("a", i+1), "1").Ops}))
		p.does(ask(1, 0, api.Command{}))
		k := p.call()
		if k.Index != i+2 || k.Reply.N != i+1 || len(k.Map) != i+1 {
			t.Fatal(k)
		}
	}
	first := p.c.Calls()[1]
	if len(first.Map) != 1 {
		t.Fatal("what was told has changed", first)
	}
}
