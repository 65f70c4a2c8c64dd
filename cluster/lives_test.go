package cluster

import (
	"bytes"
	"math/rand"
	"slices"
	"strconv"
	"testing"

	"tidemark/api"
	"tidemark/filter"
	"tidemark/kv"
	"tidemark/machine"
	"tidemark/node"
	"tidemark/quorum"
	"tidemark/rows"
	"tidemark/views"
)

// past is the one order that was chosen, and what it gives.
type past struct {
	t       *testing.T
	order   []api.Entry
	replies []api.Reply
	images  [][]byte
	m       *machine.Machine
	keys    *kv.Map
	events  []api.Event
	done    map[[2]int]bool // sessions' numbers
	gone    int             // how often one was met that was let go
}

func newPast(t *testing.T) *past {
	m := machine.New()
	return &past{t: t, m: m, keys: kv.New(), images: [][]byte{m.Image()}, done: map[[2]int]bool{}}
}

// add does the next entry, and holds what is to hold of each.
func (p *past) add(e api.Entry) {
	p.t.Helper()
	mark, seats, subs := p.m.Mark(), p.m.Seats(), p.m.Subs()
	r := p.m.Apply(e.Index, e.Data)
	p.order, p.replies, p.images = append(p.order, e), append(p.replies, r), append(p.images, p.m.Image())
	c, err := machine.Get(e.Data)
	ok(p.t, err)
	id := [2]int{c.Session, c.Seq}
	again := machine.Counts(c.Kind) && p.done[id]
	if again && (p.m.Mark() != mark || !slices.Equal(p.m.Seats(), seats)) {
		p.t.Fatalf("P1: done once more: %s", show(c))
	}
	if !again && r.Err == api.OK {
		p.done[id] = true
		p.events = append(p.events, p.changed(c, mark)...)
	}
	if !slices.Equal(p.m.Keys("", ""), p.keys.Scan("", "")) {
		p.t.Fatalf("%s: %v", show(c), r)
	}
	for _, was := range subs {
		at := slices.IndexFunc(p.m.Subs(), func(s api.Sub) bool { return s.ID == was.ID })
		if at >= 0 && p.m.Subs()[at].At < was.At {
			p.t.Fatalf("P4: a cursor goes back: %s", show(c))
		}
	}
}

// changed is what a command that was OK changed, by a map of the past's own.
func (p *past) changed(c api.Command, mark int) []api.Event {
	at := len(p.order)
	if c.Kind == api.CWrite {
		l, e := p.keys.Do(at, c.Conds, c.Ops)
		ok(p.t, e)
		return l
	}
	var all []api.Event
	if c.Kind == api.CApply && c.Pos > mark {
		for _, o := range c.Ops {
			l, e := p.keys.Do(at, nil, []api.Op{o})
			ok(p.t, e)
			all = append(all, l...)
		}
	}
	return all
}

// holds that a node has committed nothing else, and is what that makes, and P2, P4.
func (p *past) holds(n *node.Node) {
	p.t.Helper()
	s, m := n.State(), n.Machine()
	for _, e := range s.Rows {
		if e.Index <= s.Commit && e.Index == len(p.order)+1 {
			p.add(e)
		}
		if e.Index <= s.Commit && !alike(e, p.order[e.Index-1]) {
			p.t.Fatalf("P1: another entry: %s, not %s", show(e), show(p.order[e.Index-1]))
		}
	}
	if m.At() != s.Commit || !bytes.Equal(m.Image(), p.images[s.Commit]) {
		p.t.Fatalf("P1: another machine at %d", s.Commit)
	}
	for _, v := range m.Views() {
		got, e := m.Rows(v.Name)
		want, e1 := views.Of(v, m.Keys("", ""))
		ok(p.t, e, e1)
		same(p.t, "P2", got, want)
	}
	for _, s := range m.Subs() {
		p.exact(m, s)
	}
}

// exact holds P4 of a subscriber at a node.
func (p *past) exact(m *machine.Machine, s api.Sub) {
	p.t.Helper()
	for after := s.At; after <= m.At(); after += 1 + (m.At()-s.At)/4 {
		for _, most := range []int{0, 1, 5, 99} {
			l, to, e := m.Read(s.ID, after, most)
			if s.Gone {
				same(p.t, "P4: let go", e, api.ErrEvicted)
				p.gone++
				continue
			}
			ok(p.t, e)
			between := slices.DeleteFunc(slices.Clone(p.events), func(e api.Event) bool { return e.Pos <= after || e.Pos > to })
			same(p.t, "P4", l, filter.Pass(s.Filter, between...))
			if most == 99 && to != m.At() || to < after {
				p.t.Fatal("P4: not up to the top", to, m.At())
			}
		}
	}
}

// answered holds that a call was answered as the order gives it.
func (p *past) answered(k api.Call, all []api.Call) {
	p.t.Helper()
	if k.Reply.Err == api.ErrStep {
		same(p.t, "quit", k, api.Call{Hand: k.Hand, Command: k.Command, Began: k.Began, Ended: k.Ended, Reply: k.Reply})
		return
	}
	if k.Command.Kind != api.CNone {
		c, e := machine.Get(p.order[k.Index-1].Data)
		ok(p.t, e)
		if !machine.Counts(k.Command.Kind) != (c.Session == 0) {
			p.t.Fatal("its session", show(c))
		}
		c.Session, c.Seq = 0, 0
		same(p.t, "P1: its command", c, k.Command)
		same(p.t, "P1: its reply", k.Reply, p.replies[k.Index-1])
		return
	}
	m, e := machine.Load(p.images[k.Index])
	ok(p.t, e)
	same(p.t, "P1: a look", k.Map, m.Keys("", ""))
	same(p.t, "P1: a look", k.Reply, api.Reply{N: m.Mark()})
	for _, was := range all {
		if was.Ended > 0 && was.Ended < k.Began && was.Index > k.Index {
			p.t.Fatalf("P1: a look does not see what was answered: %s, %s", show(k), show(was))
		}
	}
}

// life is a cluster that a random script drives.
type life struct {
	t      *testing.T
	r      *rand.Rand
	step   func(api.Step) api.Errno
	c      *Cluster
	first  api.Roster
	past   *past
	commit [api.MaxNodes]int
	now    int
	ended  map[int]bool // calls, by their place
	value  int
	seen   map[string]int
}

func newLife(t *testing.T, seed int64, seen map[string]int, both bool) *life {
	r := rand.New(rand.NewSource(seed))
	first := []api.Roster{of(some(0, 1, 2)), of(some(0, 1, 2), 3, 4), of(some(0)), of(some(4, 3, 2, 1, 0)), of(some(3, 1), 0)}[r.Intn(5)]
	l := &life{t: t, r: r, first: first, past: newPast(t), ended: map[int]bool{}, seen: seen}
	if both {
		p := newPair(t, first)
		l.c, l.step = p.c, p.step
		return l
	}
	c, e := New(first)
	ok(t, e)
	l.c, l.step = c, c.Step
	return l
}

// do does a step, and holds what is to hold behind each.
func (l *life) do(s api.Step) api.Errno {
	l.t.Helper()
	l.now++
	was := l.c.Waiting()
	e := l.step(s)
	l.seen["step "+strconv.Itoa(s.Kind)+" error "+strconv.Itoa(int(e))]++
	for i := range api.MaxNodes {
		n := l.c.Node(i)
		if n == nil {
			l.commit[i] = -1
			continue
		}
		if at := n.Machine().At(); at != l.commit[i] {
			l.commit[i] = at
			l.past.holds(n)
		}
	}
	all := l.c.Calls()
	for i, k := range all {
		if k.Ended > 0 && !l.ended[i] {
			l.ended[i] = true
			l.seen["answer "+strconv.Itoa(k.Command.Kind)]++
			same(l.t, "when", k.Ended, l.now)
			l.past.answered(k, all)
		}
	}
	if way := l.c.Waiting(); len(way) > api.MaxBag || !slices.IsSorted(way) || len(was) > 0 && len(way) > 0 && way[0] < was[0] {
		l.t.Fatal("the bag", way)
	}
	return e
}

func (l *life) leader() int {
	at, term := l.r.Intn(api.MaxNodes), -1
	for i := range api.MaxNodes {
		if n := l.c.Node(i); n != nil && n.State().Role == api.Leading && n.State().Hard.Term > term {
			at, term = i, n.State().Hard.Term
		}
	}
	return at
}

// someone is often the node that leads.
func (l *life) someone() int {
	if l.r.Intn(4) > 0 {
		return l.leader()
	}
	return l.r.Intn(api.MaxNodes)
}

func (l *life) live() {
	r := l.r
	way := l.c.Waiting()
	i := r.Intn(api.MaxNodes)
	s := api.Step{Node: i, Other: r.Intn(api.MaxNodes), Timeout: 1 + r.Intn(12)}
	switch a := r.Intn(1000); {
	case a < 500 && len(way) > 0:
		s.Kind, s.N = api.STake, way[r.Intn(min(len(way), 8))]
		if r.Intn(25) == 0 {
			s.Kind = []int{api.SLose, api.SDouble}[r.Intn(2)]
		}
	case a < 640:
		s.Kind = api.STick
	case a < 850:
		s = l.client()
	case a < 860:
		s.Kind, s.Keep, s.Tear = api.SCrash, r.Intn(5)-1, r.Intn(50)-1
	case a < 875:
		s.Kind, s.N, s.Keep, s.Tear = api.SArm, r.Intn(8), r.Intn(5)-1, r.Intn(50)-1
	case a < 925:
		s.Kind = api.SStart
	case a < 945:
		s.Kind, s.Node = api.SPack, l.someone()
	case a < 960:
		s.Kind, s.Node = api.SRoster, l.leader()
		s.Roster = l.near()
	case a < 970:
		s.Kind, s.Node = api.SHand, l.leader()
	case a < 980:
		s.Kind, s.N = api.SWall, []int{0, 0, r.Intn(64)}[r.Intn(3)]
	default:
		s = api.Step{Kind: r.Intn(17) - 1, Hand: r.Intn(5) - 1, Node: r.Intn(7) - 1, Other: r.Intn(7) - 1, N: r.Intn(9) - 1, Roster: of(some(r.Intn(5)))}
	}
	l.do(s)
}

// near is a roster that differs by a node, or is none.
func (l *life) near() api.Roster {
	r := l.first
	if n := l.c.Node(l.leader()); n != nil {
		r = rosterOf(n.State())
	}
	i := l.r.Intn(api.MaxNodes)
	without := func(list []int) []int {
		return slices.DeleteFunc(slices.Clone(list), func(n int) bool { return n == i })
	}
	next := of(without(r.Voters), without(r.Learners)...)
	switch a := l.r.Intn(4); {
	case a == 0:
	case quorum.Has(r, i) && !quorum.Votes(r, i) || a == 1:
		next.Voters = append(next.Voters, i)
	default:
		next.Learners = append(next.Learners, i)
	}
	return next
}

// client is a step of a client's.
func (l *life) client() api.Step {
	r := l.r
	s := api.Step{Kind: api.SAsk, Hand: r.Intn(3), Node: l.someone()}
	session := false
	for _, k := range l.c.Calls() {
		switch {
		case k.Hand != s.Hand:
		case k.Ended == 0:
			s.Kind = api.SAgain
			if r.Intn(100) == 0 {
				s.Kind = api.SQuit
			} else if k.Command.Kind == api.COpen && r.Intn(4) > 0 { // each may be a session more, and these are few
				s.Kind, s.Timeout = api.STick, 5
			}
			return s
		case k.Reply.Err == api.ErrStep:
			session = false
		case k.Command.Kind == api.COpen && k.Reply.Err == api.OK:
			session = true
		}
	}
	s.Command = l.command()
	if !session && r.Intn(2) == 0 && len(l.past.m.Seats()) < api.MaxHold {
		s.Command = opens
	}
	return s
}

// command is one that a client may want.
func (l *life) command() api.Command {
	r := l.r
	name := []string{"v", "w"}[r.Intn(2)]
	m := l.past.m
	switch a := r.Intn(33); a {
	case 0:
		return []api.Command{opens, {Kind: api.CClose}}[r.Intn(2)]
	case 1, 2, 3:
		return api.Command{}
	case 4:
		return api.Command{Kind: api.CView, View: api.View{Name: name, Kind: api.VSum, Field: "g", Of: "n"}}
	case 5:
		return api.Command{Kind: api.CView, View: api.View{Name: name, Kind: api.VIndex, Field: "g"}}
	case 6:
		return api.Command{Kind: api.CDrop, View: api.View{Name: name}}
	case 7:
		return api.Command{Kind: api.CSub, Filter: api.Filter{Kind: api.FPrefix, Text: "b"}}
	case 8:
		return api.Command{Kind: api.CUnsub, Sub: 1 + r.Intn(9)}
	case 9:
		return api.Command{Kind: api.CGroup, View: api.View{Name: name}, Pos: 2}
	case 10:
		return api.Command{Kind: api.CJoin, View: api.View{Name: name}}
	case 11, 12:
		if l := m.Groups(); len(l) > 0 && len(l[0].Members) > 0 {
			return api.Command{Kind: api.CCommit, View: api.View{Name: l[0].Name}, Sub: l[0].Members[0], From: l[0].Term, Part: r.Intn(2), Pos: m.At() - r.Intn(2)}
		}
		return api.Command{Kind: api.CGone, View: api.View{Name: name}}
	case 18:
		return api.Command{Kind: api.CLeave, View: api.View{Name: name}, Sub: 1 + r.Intn(3)}
	case 13, 14:
		return api.Command{Kind: api.CApply, From: m.Mark(), Pos: m.Mark() + 1 + r.Intn(2), Ops: l.ops()}
	case 15, 16, 17:
		if l := m.Subs(); len(l) > 0 {
			s := l[r.Intn(len(l))]
			return api.Command{Kind: api.CAck, Sub: s.ID, Pos: m.At() - r.Intn(9)}
		}
	}
	return api.Command{Kind: api.CWrite, Ops: l.ops()}
}

// ops are a few operations on unlike keys; each value is another one, some numbers are great.
func (l *life) ops() []api.Op {
	var out []api.Op
	for i := range 1 + l.r.Intn(3) {
		l.value++
		o := api.Op{Key: string(rune('a'+l.r.Intn(3))) + strconv.Itoa(i)}
		if l.r.Intn(5) > 0 {
			n := strconv.Itoa(l.value)
			if l.r.Intn(6) == 0 {
				n = "9223372036854775" + strconv.Itoa(100+l.value%700)
			}
			o.Has, o.Value = true, "g:"+strconv.Itoa(l.r.Intn(2))+" n:"+n
		}
		out = append(out, o)
	}
	return out
}

// calm has all nodes run, without a wall, and all messages come.
func (l *life) calm() {
	l.t.Helper()
	l.do(wall(0))
	for i := range api.MaxNodes {
		if l.c.Node(i) == nil {
			ok(l.t, l.do(start(i)))
		}
		ok(l.t, l.do(api.Step{Kind: api.SArm, Node: i}))
	}
	l.all()
}

func (l *life) all() {
	l.t.Helper()
	for n := 0; len(l.c.Waiting()) > 0; n++ {
		if n > 5000 {
			l.t.Fatal("the messages do not end")
		}
		ok(l.t, l.do(take(l.c.Waiting()[0])))
	}
}

// rosterOf is the roster by a node's rows.
func rosterOf(s api.State) api.Roster {
	for _, e := range slices.Backward(s.Rows) {
		if c, _ := machine.Get(e.Data); c.Kind == api.CRoster && quorum.Check(c.Roster) == api.OK {
			return c.Roster
		}
	}
	return s.Base.Roster
}

func logOf(s api.State) api.Log {
	return api.Log{Index: s.Base.Index, Term: s.Base.Term, Rows: s.Rows}
}

// fit is the nodes that vote, and whose logs are fresh for a majority's.
func (l *life) fit() []int {
	var fit []int
	for i := range api.MaxNodes {
		s := l.c.Node(i).State()
		r := rosterOf(s)
		index, term := rows.Last(logOf(s))
		var behind []int
		for _, v := range r.Voters {
			if rows.Fresh(logOf(l.c.Node(v).State()), index, term) {
				behind = append(behind, v)
			}
		}
		if quorum.Votes(r, i) && quorum.Majority(r, behind...) {
			fit = append(fit, i)
		}
	}
	return fit
}

// end holds P5, and P3: what was answered is there at last, and acknowledged cursors.
func (l *life) end() {
	l.t.Helper()
	l.calm()
	fit := l.fit()
	if len(fit) == 0 {
		l.t.Fatal("nobody's log is fresh")
	}
	i := fit[l.r.Intn(len(fit))]
	for n := 0; n < 2 || l.c.Node(i).State().Role != api.Leading; n++ { // one that leads already may have told nobody, as all of that was lost
		if n > 60 {
			l.t.Fatal("P5: it does not lead")
		}
		l.do(tick(i))
		l.all()
	}
	for h := range 3 {
		if l.do(again(h, i)) != api.OK {
			l.do(ask(h, i, []api.Command{{}, opens}[h%2]))
		}
		l.all()
	}
	for range 2 {
		l.do(tick(i))
		l.all()
	}
	all := l.c.Calls()
	for _, k := range all {
		if k.Ended == 0 {
			l.t.Fatalf("P5: not answered: %s", show(k))
		}
	}
	s := l.c.Node(i).State()
	if s.Commit != len(l.past.order) {
		l.t.Fatal("P3: not all that was committed", s.Commit, len(l.past.order))
	}
	for _, v := range rosterOf(s).Voters {
		x := l.c.Node(v)
		index, term := rows.Last(logOf(x.State()))
		wi, wt := rows.Last(logOf(s))
		if index != wi || term != wt || x.State().Commit != s.Commit || !bytes.Equal(x.Machine().Image(), l.past.images[s.Commit]) {
			l.t.Fatalf("P5: one has not what it has: %s, not %s", show(x.State()), show(s))
		}
	}
	l.acknowledged(all, l.c.Node(i).Machine().Subs())
}

// acknowledged holds that a cursor is nowhere below what was answered (P3).
func (l *life) acknowledged(all []api.Call, subs []api.Sub) {
	l.t.Helper()
	for _, k := range all {
		for _, s := range subs {
			if k.Command.Kind == api.CAck && k.Command.Sub == s.ID && k.Reply == (api.Reply{}) && s.At < k.Command.Pos {
				l.t.Fatalf("P3: a cursor is forgotten: %s, %s", show(k), show(s))
			}
		}
	}
}

// P1 to P5, and that it is the model.
func TestLivesAreTheModels(t *testing.T) {
	lives(t, 0, 25, 900, true)
}

// P1 to P5
func TestLives(t *testing.T) {
	seen := lives(t, 1000, 120, 1300, false)
	for name, least := range least() {
		if seen[name] < least {
			t.Error("seldom:", name, seen[name])
		}
	}
}

func lives(t *testing.T, from, n, steps int, both bool) map[string]int {
	t.Helper()
	seen := map[string]int{}
	for seed := range n {
		l := newLife(t, int64(from+seed), seen, both)
		for range steps {
			l.live()
		}
		l.end()
		seen["committed"] += len(l.past.order)
		seen["events"] += len(l.past.events)
		seen["let go"] += l.past.gone
		for _, r := range l.past.replies {
			seen["reply "+strconv.Itoa(int(r.Err))]++
		}
	}
	return seen
}

// least is how often what should be met in lives is met at least.
func least() map[string]int {
	return map[string]int{
		"committed": 4000, "events": 1000, "let go": 100,
		"answer 0": 200, "answer 1": 400, "answer 2": 600, "answer 3": 10, "answer 4": 60, "answer 6": 30, "answer 7": 60, "answer 8": 30,
		"answer 10": 100, "answer 12": 30, "answer 13": 30, "answer 14": 30, "answer 15": 5, "answer 16": 50,
		"reply 72": 15, "reply 82": 10, "reply 90": 50, "reply 101": 5,
		"step 4 error 30": 2, "step 7 error 7": 5, "step 11 error 0": 300, "step 11 error 30": 20, "step 12 error 0": 100, "step 13 error 0": 5,
	}
}
