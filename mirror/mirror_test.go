package mirror

import (
	"math"
	"strings"
	"testing"

	"tidemark/api"
)

func of(voters ...int) api.Roster { return api.Roster{Voters: voters} }

// at is a step of a side.
func at(side int, s api.Step) api.Move { return api.Move{Kind: api.RCluster, Side: side, Step: s} }

func tick(side, i int) api.Move { return at(side, api.Step{Kind: api.STick, Node: i, Timeout: 9}) }

func take(side, id int) api.Move { return at(side, api.Step{Kind: api.STake, N: id}) }

func wall(side, n int) api.Move { return at(side, api.Step{Kind: api.SWall, N: n}) }

func crash(side, i int) api.Move { return at(side, api.Step{Kind: api.SCrash, Node: i}) }

func start(side, i int) api.Move { return at(side, api.Step{Kind: api.SStart, Node: i, Timeout: 9}) }

// ask is what a client asks a side's node 0.
func ask(side, h int, c api.Command) api.Move {
	return at(side, api.Step{Kind: api.SAsk, Hand: h, Command: c})
}

// relayed is a move of the relay's at node 0.
func relayed(kind int) api.Move { return api.Move{Kind: kind} }

var opens = api.Command{Kind: api.COpen}

func op(key, value string) api.Op { return api.Op{Key: key, Has: true, Value: value} }

func gone(key string) api.Op { return api.Op{Key: key} }

func writes(l ...api.Op) api.Command { return api.Command{Kind: api.CWrite, Ops: l} }

// does holds that moves come to nothing that is an error.
func (d *duo) does(l ...api.Move) {
	d.t.Helper()
	for _, v := range l {
		if e := d.move(v); e != api.OK {
			d.t.Fatalf("%s: %d", show(v), e)
		}
	}
}

// refuses holds that a move has an error, and changes nothing.
func (d *duo) refuses(v api.Move, want api.Errno) {
	d.t.Helper()
	was := d.all()
	if e := d.move(v); e != want {
		d.t.Fatalf("%s: %d, not %d", show(v), e, want)
	}
	same(d.t, show(v), d.all(), was)
}

// all is all that a mirror tells, but for the steps' numbers.
func (d *duo) all() string {
	s := show(d.m.Relay())
	for side := range 2 {
		s += show(d.m.Side(side).Calls()) + show(d.m.Side(side).Waiting())
	}
	return s
}

// come takes all messages of a side.
func (d *duo) come(side int) {
	d.t.Helper()
	for l := d.m.Side(side).Waiting(); len(l) > 0; l = d.m.Side(side).Waiting() {
		d.does(take(side, l[0]))
	}
}

// leads has a node of a side lead by its ticks.
func (d *duo) leads(side, i int) {
	d.t.Helper()
	for range 30 {
		if d.m.Side(side).Node(i).State().Role == api.Leading {
			return
		}
		d.does(tick(side, i))
		d.come(side)
	}
	d.t.Fatal("it does not lead")
}

// keys are what a node of a side has.
func (d *duo) keys(side, i int) []api.Op { return d.m.Side(side).Node(i).Machine().Keys("", "") }

// last is the last call of a side.
func (d *duo) last(side int) api.Call {
	l := d.m.Side(side).Calls()
	return l[len(l)-1]
}

// lone is a mirror whose sides are one node each, which leads, so that each call is answered at once; client 0 has a session at the source, the relay, too.
func lone(t *testing.T, prefix string) *duo {
	t.Helper()
	d := newDuo(t, of(0), of(0), prefix)
	d.leads(0, 0)
	d.leads(1, 0)
	d.does(ask(0, 0, opens), relayed(api.ROpen))
	return d
}

// following is likewise one whose mirror is what the relay saw.
func following(t *testing.T, prefix string) *duo {
	t.Helper()
	d := lone(t, prefix)
	d.does(relayed(api.RSub), relayed(api.RLook), relayed(api.RReset))
	return d
}

// The document's example, on three nodes and on two.
func TestExample(t *testing.T) {
	d := newDuo(t, of(0, 1, 2), of(3, 4), "")
	d.leads(0, 1)
	d.leads(1, 4)
	client := api.Step{Kind: api.SAsk, Node: 1, Command: opens}
	d.does(at(0, client))
	d.come(0)
	client.Command = writes(op("a", "1"))
	d.does(at(0, client))
	d.come(0)
	for _, kind := range []int{api.ROpen, api.RSub, api.RLook} {
		d.does(api.Move{Kind: kind, Node: 1})
		d.come(0)
	}
	same(t, "seen", d.m.Relay(), api.Relay{Sub: 1, From: 5, Seen: 5})
	d.does(api.Move{Kind: api.RReset, Node: 4})
	d.come(1)
	same(t, "reset", d.m.Relay(), api.Relay{Sub: 1, From: 5, At: 5, Known: true})
	d.does(tick(1, 4))
	d.come(1)
	for i := 3; i <= 4; i++ {
		same(t, "reset", d.keys(1, i), []api.Op{op("a", "1")})
		same(t, "reset", d.m.Side(1).Node(i).Machine().Mark(), 5)
	}
	client.Command = writes(gone("a"), op("b", "2"))
	d.does(at(0, client))
	d.come(0)
	d.does(api.Move{Kind: api.RPull, Node: 1})
	same(t, "pulled", d.m.Relay(), api.Relay{Sub: 1, From: 5, At: 5, Known: true, To: 6})
	d.does(api.Move{Kind: api.RPush, Node: 4})
	d.come(1)
	same(t, "pushed", d.m.Relay(), api.Relay{Sub: 1, From: 5, At: 6, Known: true})
	same(t, "pushed", d.keys(1, 4), []api.Op{op("b", "2")})
}

// P22.1: New
func TestNew(t *testing.T) {
	for _, c := range []struct {
		source, mirror api.Roster
		prefix         string
		want           api.Errno
	}{
		{of(0), of(4, 1), "", api.OK},
		{of(0, 1, 2, 3, 4), api.Roster{Voters: []int{2}, Learners: []int{0}}, "a b", api.OK},
		{of(0), of(0), strings.Repeat("é", api.MaxKey), api.OK},
		{of(0), of(0), strings.Repeat("é", api.MaxKey+1), api.ErrKey},
		{of(0), of(0), "a\n", api.ErrKey},
		{of(0), of(0), "\xff", api.ErrKey},
		{of(), of(0), "\x7f", api.ErrKey},
		{of(), of(0), "", api.ErrRoster},
		{of(0), of(), "a", api.ErrRoster},
		{of(0), of(5), "", api.ErrRoster},
		{of(-1), of(0), "", api.ErrRoster},
		{of(0, 0), of(1, 1), "", api.ErrRoster},
		{api.Roster{Learners: []int{1}}, of(0), "", api.ErrRoster},
		{of(0), api.Roster{Voters: []int{1}, Learners: []int{1}}, "", api.ErrRoster},
	} {
		m, e := New(c.source, c.mirror, c.prefix)
		if e != c.want || (m == nil) != (e != api.OK) {
			t.Fatal(c, m, e)
		}
		if m == nil {
			continue
		}
		same(t, "relay", m.Relay(), api.Relay{})
		for side, r := range []api.Roster{c.source, c.mirror} {
			if m.Side(side) == nil || m.Side(side) != m.Side(side) || m.Side(0) == m.Side(1) {
				t.Fatal("not the cluster itself", side)
			}
			n := r.Voters[0]
			same(t, "state", m.Side(side).Node(n).State(), api.State{ID: n, Base: api.Base{Roster: r}, Timeout: 3 + n})
		}
		for _, side := range []int{-1, 2, 3, math.MinInt, math.MaxInt} {
			if m.Side(side) != nil {
				t.Error(side)
			}
		}
	}
}

// P22.1: of a mirror that New did not make.
func TestPlainMirrors(t *testing.T) {
	for _, m := range []*Mirror{nil, {}, new(Mirror)} {
		for kind := range 15 {
			if e := m.Move(api.Move{Kind: kind}); e != api.ErrNil {
				t.Error(kind, e)
			}
		}
		if m.Side(0) != nil || m.Side(1) != nil || m.Side(-1) != nil || m.Relay() != (api.Relay{}) {
			t.Error(m)
		}
	}
}

// P22.2: ErrStep, whatever else the move has.
func TestMovesThatAreNone(t *testing.T) {
	d := following(t, "")
	for _, kind := range []int{0, -1, 13, 99, math.MinInt, math.MaxInt} {
		d.refuses(api.Move{Kind: kind, Step: api.Step{Kind: api.STick}}, api.ErrStep)
	}
	for _, side := range []int{-1, 2, math.MinInt, math.MaxInt} {
		d.refuses(tick(side, 0), api.ErrStep)
		d.refuses(api.Move{Kind: api.RAgain, Side: side}, api.ErrStep)
	}
	// Each is a step of neither cluster.
	d.does(relayed(api.RLook), relayed(api.RLearn))
	same(t, "steps", [2]int{d.last(0).Began, d.last(1).Began}, [2]int{8, 5})
	// What a move has no use for may be anything.
	d.does(api.Move{Kind: api.RLook, Side: 77, Step: api.Step{Kind: -1}}, api.Move{Kind: api.RForget, Side: -3, Node: -3})
}

// P22.2: RCluster: whose steps may be.
func TestDriven(t *testing.T) {
	d := lone(t, "")
	look := api.Command{}
	for _, kind := range []int{api.SAsk, api.SAgain, api.SQuit} {
		for side := range 2 {
			for _, h := range []int{2, 3, math.MaxInt} {
				d.refuses(at(side, api.Step{Kind: kind, Hand: h}), api.ErrStep)
			}
		}
		for k := api.COpen; k <= api.CGone; k++ {
			d.refuses(at(1, api.Step{Kind: kind, Command: api.Command{Kind: k}}), api.ErrStep)
		}
		d.refuses(at(1, api.Step{Kind: kind, Command: api.Command{Kind: -1}}), api.ErrStep)
	}
	d.does(ask(0, 1, opens), ask(0, 0, writes(op("a", "1"))), ask(0, 1, look), ask(1, 0, look), ask(1, 1, look))
	same(t, "steps", [2]int{d.last(0).Began, d.last(1).Began}, [2]int{8, 5})
	// A step that a cluster refuses is one of its steps all the same.
	d.refuses(ask(0, 0, api.Command{Kind: 17}), api.ErrCommand)
	d.refuses(ask(0, -1, opens), api.ErrStep)
	d.refuses(ask(1, -1, look), api.ErrStep)
	d.refuses(at(0, api.Step{Kind: api.STick, Node: 5}), api.ErrStep)
	d.refuses(at(1, api.Step{Kind: 99}), api.ErrStep)
	d.refuses(start(1, 0), api.ErrNode)
	d.refuses(at(1, api.Step{Kind: api.SArm, N: -1}), api.ErrArg)
	d.does(ask(0, 0, look), ask(1, 0, look))
	same(t, "steps", [2]int{d.last(0).Began, d.last(1).Began}, [2]int{12, 10})
	// What is none of a client's steps may have any hand, and any command.
	d.does(at(1, api.Step{Kind: api.STick, Hand: 9, Command: opens}), at(0, api.Step{Kind: api.STick, Hand: 9, Command: opens}))
}

// P22.2: two clusters know nothing of one another.
func TestSides(t *testing.T) {
	d := newDuo(t, of(0, 1), of(0, 1), "")
	d.leads(0, 0)
	d.does(crash(1, 0), wall(0, 1))
	d.refuses(tick(1, 0), api.ErrNode)
	d.does(tick(0, 0), tick(1, 1))
	same(t, "at the source alone", [2]int{len(d.m.Side(0).Waiting()), len(d.m.Side(1).Waiting())}, [2]int{1, 0})
}

// Memory: what is handed in is neither changed nor kept, what is told is new.
func TestMemory(t *testing.T) {
	voters, learners := []int{9, 0, 9}, []int{1, 9}
	first := api.Roster{Voters: voters[1:2], Learners: learners[:1]}
	m, e := New(first, first, "a")
	ok(t, e)
	same(t, "neither changed", [2][]int{voters, learners}, [2][]int{{9, 0, 9}, {1, 9}})
	clear(voters)
	clear(learners)
	do := func(l ...api.Move) {
		for _, v := range l {
			ok(t, m.Move(v))
		}
	}
	for side := range 2 {
		do(crash(side, 0), start(side, 0))
		same(t, "first", m.Side(side).Node(0).State().Base.Roster, api.Roster{Voters: []int{0}, Learners: []int{1}})
		for range 9 {
			do(tick(side, 0))
		}
	}
	more := []int{2, 1, 9}
	roster := at(0, api.Step{Kind: api.SRoster, Roster: api.Roster{Voters: []int{0}, Learners: more[:2]}})
	ops := []api.Op{op("a", "1"), op("b", "2"), op("c", "3")}
	do(roster, ask(0, 0, opens), ask(0, 0, api.Command{Kind: api.CWrite, Ops: ops[:2]}))
	same(t, "neither changed", [2]string{show(more), show(ops)}, [2]string{"[2 1 9]", show([]api.Op{op("a", "1"), op("b", "2"), op("c", "3")})})
	clear(more)
	clear(ops)
	do(relayed(api.ROpen), relayed(api.RSub), relayed(api.RLook))
	// Whoever changes what it was told of a look, or of a batch, changes nothing that the relay has.
	calls := m.Side(0).Calls()
	for _, k := range calls {
		clear(k.Map)
		clear(k.Command.Ops)
	}
	do(relayed(api.RReset))
	same(t, "reset", m.Side(1).Node(0).Machine().Keys("", ""), []api.Op{op("a", "1")})
	do(ask(0, 0, writes(op("a", "4"))), relayed(api.RPull), at(1, api.Step{Kind: api.SCrash}), relayed(api.RPush))
	for _, k := range m.Side(1).Calls() {
		clear(k.Command.Ops)
	}
	do(start(1, 0))
	for range 9 {
		do(tick(1, 0))
	}
	do(api.Move{Kind: api.RAgain, Side: 1})
	same(t, "pushed", m.Side(1).Node(0).Machine().Keys("", ""), []api.Op{op("a", "4")})
}

// From arguments alone: the same moves come to the same; two mirrors know nothing of one another.
func TestAlike(t *testing.T) {
	d := following(t, "a")
	d.does(ask(0, 0, writes(op("ab", "1"))), relayed(api.RPull))
	same(t, "knows", d.m.Relay(), api.Relay{Sub: 1, From: 4, At: 4, Known: true, To: 5})
	other, e := New(of(0), of(0), "")
	ok(t, e)
	same(t, "knows nothing", other.Relay(), api.Relay{})
	if len(other.Side(0).Calls()) > 0 || other.Side(0).Node(0).Machine().At() > 0 {
		t.Error("it knows of another one")
	}
	d.does(relayed(api.RPush)) // the model's clusters are others
}
