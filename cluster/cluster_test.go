package cluster

import (
	"math"
	"slices"
	"testing"

	"tidemark/api"
	"tidemark/machine"
)

func of(voters []int, learners ...int) api.Roster {
	return api.Roster{Voters: voters, Learners: learners}
}

func some(l ...int) []int { return l }

func tick(i int) api.Step { return api.Step{Kind: api.STick, Node: i, Timeout: 9} }

func take(id int) api.Step { return api.Step{Kind: api.STake, N: id} }

func ask(h, i int, c api.Command) api.Step {
	return api.Step{Kind: api.SAsk, Hand: h, Node: i, Command: c}
}

func again(h, i int) api.Step { return api.Step{Kind: api.SAgain, Hand: h, Node: i} }

func crash(i int) api.Step { return api.Step{Kind: api.SCrash, Node: i} }

func start(i int) api.Step { return api.Step{Kind: api.SStart, Node: i, Timeout: 9} }

func wall(n int) api.Step { return api.Step{Kind: api.SWall, N: n} }

var opens = api.Command{Kind: api.COpen}

// puts is a write of a key.
func puts(key, value string) api.Command {
	return api.Command{Kind: api.CWrite, Ops: []api.Op{{Key: key, Has: true, Value: value}}}
}

// does holds that steps come to nothing that is an error.
func (p *pair) does(l ...api.Step) {
	p.t.Helper()
	for _, s := range l {
		if e := p.step(s); e != api.OK {
			p.t.Fatalf("%s: %d", show(s), e)
		}
	}
}

// refuses holds that a step has an error, and changes nothing but the step's number.
func (p *pair) refuses(s api.Step, want api.Errno) {
	p.t.Helper()
	way, calls := p.c.Waiting(), p.c.Calls()
	if e := p.step(s); e != want {
		p.t.Fatalf("%s: %d, not %d", show(s), e, want)
	}
	same(p.t, "way", p.c.Waiting(), way)
	same(p.t, "calls", p.c.Calls(), calls)
}

// all takes all messages, till none is on its way.
func (p *pair) all() {
	p.t.Helper()
	for l := p.c.Waiting(); len(l) > 0; l = p.c.Waiting() {
		p.does(take(l[0]))
	}
}

// leads has a node lead by its ticks.
func (p *pair) leads(i int) {
	p.t.Helper()
	for range 30 {
		if p.c.Node(i).State().Role == api.Leading {
			return
		}
		p.does(tick(i))
		p.all()
	}
	p.t.Fatal("it does not lead")
}

// call is the last call.
func (p *pair) call() api.Call {
	l := p.c.Calls()
	return l[len(l)-1]
}

// answered holds that the last call was answered at the last step, and how.
func (p *pair) answered(index int, r api.Reply) {
	p.t.Helper()
	if k := p.call(); k.Ended != p.m.step || k.Index != index || k.Reply != r {
		p.t.Fatalf("%s at %d, not %d %v", show(k), p.m.step, index, r)
	}
}

func (p *pair) unanswered() {
	p.t.Helper()
	if k := p.call(); k.Ended != 0 || k.Index != 0 || k.Reply != (api.Reply{}) || k.Map != nil {
		p.t.Fatalf("%s", show(k))
	}
}

// The document's example.
func TestExample(t *testing.T) {
	p := newPair(t, of(some(0, 1, 2)))
	p.does(tick(0), tick(0))
	same(t, "not yet", p.c.Waiting(), nil)
	p.does(tick(0))
	same(t, "asks", p.c.Waiting(), some(1, 2))
	for i, id := range some(1, 2) {
		m, e := p.c.Peek(id)
		ok(t, e)
		same(t, "asks", m, api.Msg{Kind: api.MAsk, To: i + 1, Term: 1})
	}
	p.does(take(1))
	same(t, "granted", p.c.Waiting(), some(2, 3))
	p.does(take(3))
	if s := p.c.Node(0).State(); s.Role != api.Standing {
		t.Fatal(s)
	}
	p.all()
	p.does(ask(1, 0, opens))
	p.all()
	k := p.call()
	same(t, "answered", k, api.Call{Hand: 1, Command: opens, Began: k.Began, Ended: k.Ended, Index: 2, Reply: api.Reply{N: 1}})
	if k.Ended <= k.Began || k.Ended > p.m.step {
		t.Fatal(k)
	}
}

// P21.1: New
func TestNew(t *testing.T) {
	for _, r := range []api.Roster{{}, of(nil, 1), of(some(0, 0)), of(some(5)), of(some(-1)), of(some(1), 1), of(some(0, 1, 2, 3, 4), 5), of(some(math.MinInt))} {
		if c, e := New(r); c != nil || e != api.ErrRoster {
			t.Error(r, c, e)
		}
	}
	for _, r := range []api.Roster{of(some(0)), of(some(4, 1), 0), of(some(0, 1, 2, 3, 4)), of(some(2), 4, 3, 1, 0)} {
		c, e := New(r)
		ok(t, e)
		for i := range api.MaxNodes {
			known := api.Roster{}
			if slices.Contains(slices.Concat(r.Voters, r.Learners), i) {
				known = r
			}
			same(t, "node", c.Node(i).State(), api.State{ID: i, Base: api.Base{Roster: known}, Timeout: 3 + i})
			same(t, "machine", c.Node(i).Machine().Image(), machine.New().Image())
			if c.Node(i) != c.Node(i) {
				t.Error("not the node itself")
			}
		}
		for _, i := range []int{-1, 5, math.MinInt, math.MaxInt} {
			if c.Node(i) != nil {
				t.Error(i)
			}
		}
		if c.Calls() != nil || c.Waiting() != nil {
			t.Error(c.Calls(), c.Waiting())
		}
		for _, id := range []int{0, 1, -1} {
			m, e := c.Peek(id)
			if !alike(m, api.Msg{}) || e != api.ErrStep {
				t.Error(m, e)
			}
		}
	}
}

// P21.1: of a cluster that New did not make.
func TestPlainClusters(t *testing.T) {
	for _, c := range []*Cluster{nil, {}, new(Cluster)} {
		for kind := range 16 {
			if e := c.Step(api.Step{Kind: kind, N: 1}); e != api.ErrNil {
				t.Error(kind, e)
			}
		}
		m, e := c.Peek(1)
		if e != api.ErrNil || !alike(m, api.Msg{}) || c.Node(0) != nil || c.Calls() != nil || c.Waiting() != nil {
			t.Error(m, e)
		}
	}
}

// P21.2: ErrStep; each is a step all the same.
func TestStepsThatAreNone(t *testing.T) {
	p := newPair(t, of(some(0)))
	p.leads(0)
	p.does(ask(0, 0, opens), crash(4))
	var wrong []api.Step
	for _, kind := range []int{0, 15, -1, 99, math.MinInt, math.MaxInt} {
		wrong = append(wrong, api.Step{Kind: kind})
	}
	for _, bad := range []int{-1, 3, 5, math.MinInt, math.MaxInt} {
		for _, kind := range []int{api.SAsk, api.SAgain, api.SQuit} {
			wrong = append(wrong, api.Step{Kind: kind, Hand: bad, Command: opens})
		}
	}
	for _, bad := range []int{-1, 5, math.MinInt, math.MaxInt} {
		for kind := api.SAsk; kind <= api.SQuit; kind++ {
			wrong = append(wrong, api.Step{Kind: kind, Node: bad, Command: opens})
		}
		for _, kind := range []int{api.STick, api.SPack, api.SRoster, api.SHand, api.SCrash, api.SArm, api.SStart} {
			wrong = append(wrong, api.Step{Kind: kind, Node: bad})
		}
	}
	for _, kind := range []int{api.STake, api.SLose, api.SDouble} {
		for _, id := range []int{0, 1, -1, math.MinInt, math.MaxInt} {
			wrong = append(wrong, api.Step{Kind: kind, N: id})
		}
	}
	for _, s := range wrong {
		p.refuses(s, api.ErrStep)
	}
	p.does(ask(0, 0, opens))
	if k := p.call(); k.Began != p.m.step || k.Began < len(wrong) {
		t.Error(k)
	}
	// Where the kind has no use for them, a hand, a node, a number may be anything.
	p.does(api.Step{Kind: api.SWall, Hand: 9, Node: -4, N: 0}, api.Step{Kind: api.STick, Hand: 77, N: -1, Other: -1})
}

// P21.2: SAsk's errors.
func TestAskRefused(t *testing.T) {
	p := newPair(t, of(some(0)))
	p.leads(0)
	with := func(c api.Command, change func(c *api.Command)) api.Command {
		change(&c)
		return c
	}
	session := func(c *api.Command) { c.Session = 1 }
	seq := func(c *api.Command) { c.Seq = -1 }
	for _, c := range []api.Command{with(opens, session), with(opens, seq), with(puts("a", "b"), seq), with(api.Command{}, session), {Kind: api.CRoster, Roster: of(some(0, 1))}, {Kind: api.CRoster}, {Kind: 17, Session: 1}} {
		p.refuses(ask(0, 0, c), api.ErrStep)
	}
	counts := some(api.CWrite, api.CClose, api.CView, api.CDrop, api.CSub, api.CAck, api.CUnsub, api.CGroup, api.CJoin, api.CLeave, api.CCommit, api.CGone)
	for _, kind := range counts {
		p.refuses(ask(0, 0, api.Command{Kind: kind}), api.ErrStep)
	}
	p.refuses(ask(0, 0, api.Command{Kind: 17}), api.ErrCommand)
	p.refuses(ask(0, 0, api.Command{Kind: -1}), api.ErrCommand)
	p.refuses(ask(0, 0, api.Command{Pos: 1}), api.ErrCommand) // a look has nothing else
	p.refuses(ask(0, 0, api.Command{Kind: api.CApply}), api.ErrCommand)
	p.refuses(ask(0, 0, api.Command{Kind: api.COpen, Ops: puts("a", "b").Ops}), api.ErrCommand)
	p.does(ask(0, 0, opens))
	p.answered(2, api.Reply{N: 1})
	p.refuses(ask(0, 0, api.Command{Kind: api.CWrite}), api.ErrOps)
	p.refuses(ask(0, 0, puts("", "b")), api.ErrKey)
	p.refuses(ask(0, 0, puts("a", "\n")), api.ErrValue)
	p.refuses(ask(0, 0, api.Command{Kind: api.CDrop}), api.ErrField)
	p.refuses(ask(0, 0, with(puts("a", "b"), func(c *api.Command) { c.Pos = 1 })), api.ErrCommand)
	p.does(ask(0, 0, puts("a", "b"))) // what was refused was not counted
	p.answered(3, api.Reply{})
	p.does(crash(0), ask(0, 0, puts("a", "b")))
	for _, c := range []api.Command{{}, opens, puts("a", "b"), {Kind: 17}, {Kind: api.CWrite}} {
		p.refuses(ask(0, 0, c), api.ErrStep) // it has a call
	}
	p.does(ask(1, 0, opens)) // the others have none
}

// wrote is the session and the number of a node's last row.
func (p *pair) wrote(i int) [2]int {
	l := p.c.Node(i).State().Rows
	c, e := machine.Get(l[len(l)-1].Data)
	ok(p.t, e)
	return [2]int{c.Session, c.Seq}
}

// P21.2: each client has a session of its own, and counts.
func TestSessions(t *testing.T) {
	p := newPair(t, of(some(0)))
	p.leads(0)
	for h := range 3 {
		p.does(ask(h, 0, opens))
		p.answered(2+h, api.Reply{N: 1 + h})
	}
	for i := range 3 {
		p.does(ask(1, 0, puts("a", "n:1")))
		p.answered(5+i, api.Reply{})
		same(t, "counts", p.wrote(0), [2]int{2, 1 + i})
		same(t, "as it was asked", p.call().Command, puts("a", "n:1"))
	}
	p.does(ask(0, 0, api.Command{Kind: api.CSub}))
	p.answered(8, api.Reply{N: 1})
	same(t, "counts", p.wrote(0), [2]int{1, 1})
	p.does(ask(1, 0, api.Command{Kind: api.CApply, Pos: 4})) // that is no session's, and not counted
	same(t, "none", p.wrote(0), [2]int{})
	p.does(ask(1, 0, puts("b", "c")))
	same(t, "counts", p.wrote(0), [2]int{2, 4})
	p.does(ask(1, 0, api.Command{})) // nor is a look
	p.does(ask(1, 0, opens))
	p.answered(11, api.Reply{N: 4})
	p.does(ask(1, 0, puts("b", "d")))
	same(t, "another session counts anew", p.wrote(0), [2]int{4, 1})
	p.does(ask(1, 0, api.Command{Kind: api.CClose}))
	p.does(ask(1, 0, puts("b", "d")))
	p.answered(14, api.Reply{Err: api.ErrSession}) // it can't tell that it has closed it
	same(t, "counts", p.wrote(0), [2]int{4, 3})
	for range 6 {
		p.does(ask(2, 0, opens))
	}
	p.answered(20, api.Reply{Err: api.ErrFull})
	p.does(ask(2, 0, puts("b", "d")))
	p.answered(21, api.Reply{})
	same(t, "the one that it had", p.wrote(0), [2]int{9, 1})
}

// P21.2: a client asks a node that leads, or in vain.
func TestWhoIsAsked(t *testing.T) {
	p := newPair(t, of(some(0, 1, 2)))
	p.leads(0)
	p.does(crash(2))
	for h, i := range some(1, 2, 3) { // it follows; it does not run; it knows nobody
		p.does(ask(h, i, opens))
		p.unanswered()
	}
	same(t, "nothing", p.c.Waiting(), nil)
	p.does(api.Step{Kind: api.SQuit, Hand: 1}, ask(1, 1, api.Command{}))
	p.unanswered()
	same(t, "a look", p.c.Waiting(), nil)
	p.does(again(0, 0))
	same(t, "begun", len(p.c.Waiting()), 2)
	p.all()
	if k := p.c.Calls()[0]; k.Reply != (api.Reply{N: 1}) || k.Index != 2 || k.Began >= k.Ended {
		t.Fatal(k)
	}
}

// P21.2: what is asked again is the same, whoever is asked; the older ticket is gone.
func TestAgain(t *testing.T) {
	p := newPair(t, of(some(0, 1, 2)))
	p.leads(0)
	p.does(ask(0, 0, opens))
	p.all()
	p.does(ask(0, 0, puts("a", "1")))
	for range 3 {
		p.does(again(0, 0))
		same(t, "the same", p.wrote(0), [2]int{1, 1})
	}
	p.does(again(0, 2)) // it does not lead: nobody is to answer now
	p.all()
	p.unanswered()
	if l := p.c.Node(0).State().Commit; l != 6 {
		t.Fatal(l)
	}
	p.does(crash(1), again(0, 1)) // it does not run: whoever was asked stays asked
	p.does(again(0, 0))
	p.does(again(0, 1))
	p.all()
	if k := p.call(); k.Index != 7 || k.Reply != (api.Reply{}) || k.Ended == 0 {
		t.Fatal(k)
	}
	if n := p.c.Node(0).Machine().Seats()[0].Seq; n != 1 {
		t.Error("done more than once", n)
	}
}

// P21.2: SQuit
func TestQuit(t *testing.T) {
	p := newPair(t, of(some(0, 1)))
	p.leads(0)
	quit := api.Step{Kind: api.SQuit}
	p.refuses(quit, api.ErrStep)
	p.refuses(again(0, 0), api.ErrStep)
	p.does(ask(0, 0, opens))
	p.all()
	p.does(ask(0, 0, puts("a", "1")), quit)
	p.answered(0, api.Reply{Err: api.ErrStep})
	was := p.call()
	p.all() // it is committed all the same, and nobody is told
	same(t, "stays so", p.call(), was)
	same(t, "done", p.c.Node(0).Machine().Keys("", ""), []api.Op{{Key: "a", Has: true, Value: "1"}})
	p.refuses(ask(0, 0, puts("a", "1")), api.ErrStep) // it has no session
	p.refuses(quit, api.ErrStep)
	p.does(ask(0, 0, opens), quit)
	p.all()
	p.refuses(ask(0, 0, puts("a", "1")), api.ErrStep)
	p.does(ask(0, 0, api.Command{}), quit)
	p.all()
	p.answeredAgo(api.Reply{Err: api.ErrStep})
	p.does(ask(0, 0, opens))
	p.all()
	p.does(ask(0, 0, puts("b", "1")))
	same(t, "counts anew", p.wrote(0), [2]int{3, 1})
}

// answeredAgo is answered, at some step, without an index.
func (p *pair) answeredAgo(r api.Reply) {
	p.t.Helper()
	if k := p.call(); k.Ended == 0 || k.Index != 0 || k.Reply != r || k.Map != nil {
		p.t.Fatalf("%s", show(k))
	}
}

// P21.2: a look has all keys, where and when a round is done.
func TestLook(t *testing.T) {
	p := newPair(t, of(some(0, 1, 2)))
	p.leads(0)
	p.does(ask(2, 0, api.Command{}))
	p.unanswered()
	p.all()
	if k := p.call(); k.Index != 1 || k.Reply != (api.Reply{}) || k.Map != nil || k.Ended == 0 {
		t.Fatal(k)
	}
	p.does(ask(0, 0, opens))
	p.all()
	p.does(ask(1, 0, api.Command{Kind: api.CReset, Pos: 70, Ops: puts("c", "3").Ops}), ask(0, 0, puts("a", "1")))
	p.does(ask(2, 0, api.Command{}))
	p.all()
	k := p.call()
	same(t, "look", k, api.Call{Hand: 2, Began: k.Began, Ended: k.Ended, Index: 4, Reply: api.Reply{N: 70}, Map: []api.Op{{Key: "a", Has: true, Value: "1"}, {Key: "c", Has: true, Value: "3"}}})
	// Behind a wall it is not answered, and an older number answers nobody.
	p.does(wall(1), ask(2, 0, api.Command{}))
	p.all()
	p.unanswered()
	p.does(wall(0), again(2, 1))
	p.does(tick(0))
	p.all()
	p.unanswered()
	p.does(again(2, 0), again(2, 0))
	p.all()
	if k := p.call(); k.Index != 4 || k.Ended == 0 {
		t.Fatal(k)
	}
	alone := newPair(t, of(some(0)))
	alone.does(ask(0, 0, api.Command{}))
	alone.unanswered()
	alone.leads(0)
	alone.unanswered()
	alone.does(again(0, 0))
	alone.answered(1, api.Reply{})
}
