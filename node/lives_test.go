package node

import (
	"bytes"
	"math"
	"math/rand"
	"slices"
	"testing"

	"tidemark/api"
	"tidemark/disk"
	"tidemark/machine"
	"tidemark/pack"
	"tidemark/raft"
)

// member is a node of a world, and what it must be: a state that raft.Step makes, and a machine.
type member struct {
	disk *disk.Disk
	node *Node // nil: it does not run
	s    api.State
	m    *machine.Machine
	torn *torn
}

// torn is the step in which a node's power went.
type torn struct {
	in  api.Input
	now api.State
	out api.Output
}

// world is five nodes, the messages between them, and what was committed.
type world struct {
	t       *testing.T
	r       *rand.Rand
	first   api.Roster
	members [api.MaxNodes]member
	bag     []api.Msg
	order   []api.Entry // what was committed, from 1 on
	images  [][]byte    // of a machine behind as many entries
	top     *machine.Machine
	seen    map[string]int
}

func newWorld(t *testing.T, seed int64, seen map[string]int) *world {
	w := &world{t: t, r: rand.New(rand.NewSource(seed)), seen: seen, top: machine.New()}
	w.first = []api.Roster{of(some(0, 1, 2)), of(some(0, 1, 2), 3, 4), of(some(0)), of(some(3, 1), 0)}[w.r.Intn(4)]
	w.images = append(w.images, w.top.Image())
	for i := range w.members {
		w.members[i].disk = empty(t, 1<<22)
		w.start(i)
	}
	return w
}

func (w *world) fail(what string, v ...any) {
	w.t.Helper()
	for i := range v {
		v[i] = show(v[i])
	}
	w.t.Fatal(append([]any{what}, v...)...)
}

// start opens a node, and holds that it is what it was, or what the step in which its power went left of it.
func (w *world) start(i int) {
	w.t.Helper()
	m := &w.members[i]
	ok(w.t, m.disk.Start())
	timeout := 1 + w.r.Intn(6)
	n, e := Open(i, m.disk, w.first, timeout)
	ok(w.t, e)
	s := n.State()
	if m.torn != nil {
		w.struck(m, s)
	} else if s.Hard != m.s.Hard || !alike(s.Rows, m.s.Rows) || m.m != nil && !alike(s.Base, m.s.Base) {
		w.fail("P20.4: another one", s, m.s)
	}
	m.node, m.torn = n, nil
	m.s, e = raft.Start(i, s.Hard, s.Base, s.Rows, timeout)
	ok(w.t, e)
	m.m = machine.New()
	if s.Base.Index > 0 {
		b, e := pack.Unpack(s.Base.Data, api.MaxImage)
		ok(w.t, e)
		m.m, e = machine.Load(b)
		ok(w.t, e)
	}
	w.check(m)
}

// P20.7
func (w *world) struck(m *member, s api.State) {
	w.t.Helper()
	was, now, out := m.s, m.torn.now, m.torn.out
	if s.Hard != was.Hard && s.Hard != now.Hard || s.Hard.Term < was.Hard.Term || s.Hard.Term == was.Hard.Term && was.Hard.Vote > 0 && s.Hard.Vote != was.Hard.Vote {
		w.fail("P20.7: another hard state", s, was, now)
	}
	for _, e := range was.Rows {
		gone := out.Cut > 0 && e.Index >= out.Cut || out.Based && (m.torn.in.Kind == api.IMsg || e.Index <= now.Base.Index)
		if !gone && !has(s, e) {
			w.fail("P20.7: a row is forgotten", e, s, was)
		}
	}
	for _, e := range s.Rows {
		if !has(was, e) && !has(now, e) {
			w.fail("a row that never was", e, s, was, now)
		}
	}
	if !alike(s.Base, was.Base) && !alike(s.Base, now.Base) {
		w.fail("another base", s.Base, was.Base, now.Base)
	}
	w.seen["struck"]++
	if out.Based {
		w.seen["struck at a base"]++
	}
	if k := keptOf(s); !alike(k, keptOf(was)) && !alike(k, keptOf(now)) {
		w.seen["half"]++
	}
}

// keptOf is what of a state is kept.
func keptOf(s api.State) api.State { return api.State{Hard: s.Hard, Base: s.Base, Rows: s.Rows} }

func has(s api.State, e api.Entry) bool {
	return slices.ContainsFunc(s.Rows, func(x api.Entry) bool { return alike(x, e) })
}

// do has a node do an input, and holds that it does what raft says, and no more.
func (w *world) do(i int, in api.Input) {
	w.t.Helper()
	m := &w.members[i]
	image := m.m.Image()
	if in.Kind == api.IPack {
		in.ID, in.Data = m.m.At(), pack.Pack(image)
	}
	s, out := raft.Step(m.s, in)
	if in.Kind == api.IPack {
		in.ID, in.Data = w.r.Intn(9), nil
	}
	done := m.node.Do(in)
	if done.Err == api.ErrDown {
		m.torn = &torn{in: in, now: s, out: out}
		same(w.t, "down", done, api.Done{Err: api.ErrDown})
		w.check(m)
		m.node = nil
		return
	}
	want := api.Done{Err: out.Err, Send: out.Send, Reads: out.Reads, Index: out.Index}
	if out.Err == api.OK {
		m.s = s
		if out.Based && in.Kind == api.IMsg {
			w.seen["bases"]++
			b, e := pack.Unpack(s.Base.Data, api.MaxImage)
			ok(w.t, e)
			m.m, e = machine.Load(b)
			ok(w.t, e)
		}
		want.Answers = w.apply(m)
	}
	if in.Kind == api.IPack && out.Err == api.OK {
		w.seen["packs"]++
		same(w.t, "P20.6", m.node.Machine().Image(), image)
	}
	same(w.t, "done", done, want)
	w.check(m)
	w.bag = append(w.bag, done.Send...)
}

// apply does what was committed to what a member must be.
func (w *world) apply(m *member) []api.Answer {
	var l []api.Answer
	for _, e := range m.s.Rows {
		if e.Index == m.m.At()+1 && e.Index <= m.s.Commit {
			l = append(l, api.Answer{Index: e.Index, Term: e.Term, Reply: m.m.Apply(e.Index, e.Data)})
			w.commit(e)
		}
	}
	w.seen["answers"] += len(l)
	return l
}

func (w *world) commit(e api.Entry) {
	if e.Index > len(w.order) {
		w.order = append(w.order, e)
		w.top.Apply(e.Index, e.Data)
		w.images = append(w.images, w.top.Image())
	}
	if !alike(e, w.order[e.Index-1]) {
		w.fail("another entry", e, w.order[e.Index-1])
	}
}

// check holds that a node tells what it must be, and P20.5.
func (w *world) check(m *member) {
	w.t.Helper()
	s := m.s
	same(w.t, "state", m.node.State(), api.State{ID: s.ID, Hard: s.Hard, Base: s.Base, Rows: s.Rows, Role: s.Role, Leader: s.Leader, Commit: s.Commit, Timer: s.Timer, Timeout: s.Timeout})
	if image := m.node.Machine().Image(); !bytes.Equal(image, m.m.Image()) || !bytes.Equal(image, w.images[s.Commit]) {
		w.fail("P20.5: another machine", s)
	}
}

func (w *world) live() {
	r := w.r
	i := r.Intn(api.MaxNodes)
	m := &w.members[i]
	switch a := r.Intn(100); {
	case a < 50 && len(w.bag) > 0:
		w.carry(r.Intn(min(len(w.bag), 9)))
	case m.node == nil:
		if a > 70 {
			w.start(i)
		}
	case a < 62:
		w.do(i, tick(1+r.Intn(8)))
	case a < 90:
		if l := w.leader(); l >= 0 && r.Intn(5) > 0 {
			i = l
		}
		w.do(i, w.input(w.members[i].node))
	case a < 92:
		ok(w.t, m.disk.Crash(r.Intn(6)-1, r.Intn(60)-1)) // nothing waits there, so that nothing is lost
		m.node = nil
	case a < 96:
		ok(w.t, m.disk.Arm(r.Intn(7), r.Intn(6)-1, r.Intn(60)-1))
	default:
		w.do(i, api.Input{Kind: api.IPack})
	}
}

// leader is a node that leads; -1: none.
func (w *world) leader() int {
	return slices.IndexFunc(w.members[:], func(m member) bool { return m.node != nil && m.s.Role == api.Leading })
}

// carry brings a message, or loses it.
func (w *world) carry(at int) {
	msg := w.bag[at]
	if w.r.Intn(10) > 0 {
		w.bag = slices.Delete(w.bag, at, at+1)
	}
	if w.members[msg.To].node != nil && w.r.Intn(20) > 0 {
		w.do(msg.To, heard(msg))
	}
}

// input is something that is asked of a node.
func (w *world) input(n *Node) api.Input {
	r := w.r
	switch r.Intn(12) {
	case 0:
		roster := n.State().Base.Roster
		roster.Learners = append(roster.Learners, r.Intn(api.MaxNodes))
		return api.Input{Kind: api.IRoster, Roster: roster}
	case 1:
		return api.Input{Kind: api.IRead, ID: r.Intn(100)}
	case 2:
		return api.Input{Kind: api.IHand, Node: r.Intn(api.MaxNodes)}
	case 3:
		return api.Input{Kind: r.Intn(11) - 1}
	}
	return write(w.command(n))
}

// command is one that a machine may take.
func (w *world) command(n *Node) api.Command {
	r := w.r
	seats := n.Machine().Seats()
	if len(seats) == 0 || r.Intn(9) == 0 {
		return opens
	}
	seat := seats[r.Intn(len(seats))]
	key := string(rune('a' + r.Intn(5)))
	c := api.Command{Session: seat.Session, Seq: seat.Seq + 1}
	switch r.Intn(9) {
	case 0:
		c.Kind, c.View = api.CView, api.View{Name: key, Kind: api.VCount, Field: "n"}
	case 1:
		c.Kind = api.CSub
	case 2:
		c.Kind, c.Sub, c.Pos = api.CAck, 1+r.Intn(4), n.Machine().At()
	case 3:
		c.Kind, c.View.Name, c.Pos = api.CGroup, key, 3
	case 4:
		return api.Command{Kind: api.CApply, From: n.Machine().Mark(), Pos: n.Machine().Mark() + 1, Ops: []api.Op{{Key: key}}}
	default:
		c.Kind, c.Ops = api.CWrite, []api.Op{{Key: key, Has: true, Value: "n:" + string(rune('0'+r.Intn(10)))}}
	}
	return c
}

// P20.2 to P20.7, whatever gets lost, comes twice, or is struck.
func TestLives(t *testing.T) {
	seen := map[string]int{}
	for seed := range int64(40) {
		w := newWorld(t, seed, seen)
		for range 1500 {
			w.live()
		}
		seen["committed"] += len(w.order)
	}
	for name, least := range map[string]int{"committed": 1000, "answers": 3000, "packs": 300, "bases": 50, "struck": 200, "struck at a base": 20, "half": 20} {
		if seen[name] < least {
			t.Error("seldom:", name, seen[name])
		}
	}
}

// P20.7: a node that is struck at each of its acts, so and so, and goes on.
func TestStruckAtEachAct(t *testing.T) {
	for _, c := range keepings() {
		for act := 1; act <= c.acts; act++ {
			for keep := range 4 {
				for _, tear := range []int{0, 1, 5, 30, 100} {
					n, d := c.node(t)
					was := n.State()
					now, out := raft.Step(n.state, c.in)
					if c.in.Kind == api.IPack {
						now, out = raft.Step(n.state, api.Input{Kind: api.IPack, ID: n.Machine().At(), Data: pack.Pack(n.Machine().Image())})
					}
					ok(t, d.Arm(act, keep, tear))
					same(t, c.name, n.Do(c.in), api.Done{Err: api.ErrDown})
					w := &world{t: t, seen: map[string]int{}}
					ok(t, d.Start())
					w.struck(&member{s: was, torn: &torn{in: c.in, now: now, out: out}}, open(t, was.ID, d, of(some(0))).State())
				}
			}
		}
	}
}

// anyNumber is often a small one, else one at an edge.
func anyNumber(r *rand.Rand) int {
	edges := some(-1, api.MaxIndex, api.MaxIndex+1, math.MaxInt, math.MinInt)
	if r.Intn(12) > 0 {
		return r.Intn(8)
	}
	return edges[r.Intn(len(edges))]
}

// anyRows are entries that often go on from an index.
func anyRows(r *rand.Rand, index, term int) []api.Entry {
	var l []api.Entry
	for range r.Intn(9) - 2 {
		index++
		if r.Intn(3) == 0 {
			term++
		}
		e := entry(index, term, opens)
		if r.Intn(30) == 0 {
			e = api.Entry{Index: anyNumber(r), Term: anyNumber(r), Data: bytesOf(r.Intn(9))}
		}
		l = append(l, e)
	}
	return l
}

func bytesOf(n int) []byte { return bytes.Repeat([]byte{byte(n)}, n) }

// anyInput is one made by hand, a right one or not.
func anyInput(r *rand.Rand) api.Input {
	m := api.Msg{Kind: r.Intn(11), From: r.Intn(3), To: 1, Term: anyNumber(r), Index: anyNumber(r), Before: anyNumber(r), Commit: anyNumber(r), Round: anyNumber(r), Yes: r.Intn(2) == 0, At: r.Intn(3) * 100, Last: r.Intn(2) == 0}
	switch m.Kind {
	case api.MRows:
		m.Rows = anyRows(r, m.Index, max(m.Before, 1))
	case api.MPart:
		m.Base = baseAt(r.Intn(9), r.Intn(4))
		m.Index, m.At = m.Base.Index, 0
		if r.Intn(3) == 0 {
			m.Base.Data = bytesOf(r.Intn(401))
		}
	}
	in := api.Input{Kind: r.Intn(9), Timeout: anyNumber(r), Msg: m, Data: put(opens), Roster: of(some(0, 1, 2)), ID: anyNumber(r), Node: anyNumber(r)}
	if r.Intn(3) > 0 {
		in.Kind = api.IMsg
	}
	return in
}

// Whatever comes to a node, it ends, and what it has may be; what is refused changes nothing.
func TestAnything(t *testing.T) {
	r := rand.New(rand.NewSource(5))
	seen := map[api.Errno]int{}
	for range 400 {
		n := open(t, 1, empty(t, 1<<22), of(some(0, 1, 2)))
		for range 150 {
			was, image := n.State(), n.Machine().Image()
			in := anyInput(r)
			out := n.Do(in)
			seen[out.Err]++
			s := n.State()
			if e := raft.Check(s); e != api.OK || n.Machine().At() != s.Commit || s.Commit < was.Commit {
				t.Fatal(show(in), show(was), show(s))
			}
			if out.Err != api.OK {
				same(t, "done", out, api.Done{Err: out.Err})
				same(t, "state", s, was)
				same(t, "machine", n.Machine().Image(), image)
			}
		}
	}
	for _, e := range []api.Errno{api.OK, api.ErrArg, api.ErrMsg, api.ErrRows, api.ErrLeader} {
		if seen[e] < 100 {
			t.Error("seldom:", e, seen[e])
		}
	}
}
