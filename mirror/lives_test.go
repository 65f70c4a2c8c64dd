package mirror

import (
	"math/rand"
	"slices"
	"strconv"
	"testing"

	"tidemark/api"
	"tidemark/machine"
	"tidemark/quorum"
)

// life is a mirror that a random script drives.
type life struct {
	t      *testing.T
	r      *rand.Rand
	m      *Mirror
	move   func(api.Move) api.Errno
	prefix string
	lazy   int // the relay does something once in so many moves of others
	past   [2]*past
	commit [2][api.MaxNodes]int
	open   [2][]int // the calls that were not answered, by their places
	calls  [2]int
	value  int
	seen   map[string]int
}

func newLife(t *testing.T, seed int64, seen map[string]int, both bool) *life {
	r := rand.New(rand.NewSource(seed))
	first := func() api.Roster {
		return []api.Roster{of(0, 1, 2), of(0), {Voters: []int{0, 1, 2}, Learners: []int{3}}, of(4, 3), of(2, 1, 4)}[r.Intn(5)]
	}
	l := &life{t: t, r: r, prefix: []string{"", "a", "b1"}[r.Intn(3)], lazy: []int{2, 4, 9, 25}[r.Intn(4)], past: [2]*past{newPast(t), newPast(t)}, seen: seen}
	source, mirror := first(), first()
	if both {
		d := newDuo(t, source, mirror, l.prefix)
		l.m, l.move = d.m, d.move
		return l
	}
	m, e := New(source, mirror, l.prefix)
	ok(t, e)
	l.m, l.move = m, m.Move
	return l
}

// do does a move, and holds what is to hold behind each.
func (l *life) do(v api.Move) api.Errno {
	l.t.Helper()
	e := l.move(v)
	l.seen["move "+strconv.Itoa(v.Kind)+" error "+strconv.Itoa(int(e))]++
	for side := range 2 {
		for i := range api.MaxNodes {
			n := l.m.Side(side).Node(i)
			if n == nil {
				l.commit[side][i] = -1
			} else if at := n.Machine().At(); at != l.commit[side][i] {
				l.commit[side][i] = at
				l.past[side].holds(n)
				l.holds(side, i)
			}
		}
		l.heeds(side)
	}
	return e
}

// holds holds P6 of a node.
func (l *life) holds(side, i int) {
	l.t.Helper()
	if m := l.m.Side(side).Node(i).Machine(); side == 1 {
		same(l.t, "P6", m.Keys("", ""), begin(l.past[0].keys[m.Mark()], l.prefix))
	}
}

// heeds holds what is to hold of the calls that were answered now.
func (l *life) heeds(side int) {
	l.t.Helper()
	all := l.m.Side(side).Calls()
	for ; l.calls[side] < len(all); l.calls[side]++ {
		l.open[side] = append(l.open[side], l.calls[side])
	}
	l.open[side] = slices.DeleteFunc(l.open[side], func(i int) bool {
		k := all[i]
		if k.Ended == 0 {
			return false
		}
		l.past[side].answered(k, all)
		l.seen["side "+strconv.Itoa(side)+" answer "+strconv.Itoa(k.Command.Kind)+" error "+strconv.Itoa(int(k.Reply.Err))]++
		return true
	})
}

// leader is a node of a side that leads; any one, if none does.
func (l *life) leader(side int) int {
	at, term := l.r.Intn(api.MaxNodes), -1
	for i := range api.MaxNodes {
		if n := l.m.Side(side).Node(i); n != nil && n.State().Role == api.Leading && n.State().Hard.Term > term {
			at, term = i, n.State().Hard.Term
		}
	}
	return at
}

// someone is often the node that leads.
func (l *life) someone(side int) int {
	if l.r.Intn(12) > 0 {
		return l.leader(side)
	}
	return l.r.Intn(api.MaxNodes)
}

// live is a while in which much or little happens to nodes.
func (l *life) live(moves int) {
	trouble := []int{0, 0, 15, 60}[l.r.Intn(4)]
	if trouble == 0 {
		l.calm(0)
		l.calm(1)
	}
	for range moves {
		if l.r.Intn(1000) < trouble {
			l.trouble(l.r.Intn(2))
		}
		l.some(l.r.Intn(2))
		if l.r.Intn(l.lazy) == 0 {
			l.relay()
		}
	}
}

// some is what a side does most of the time.
func (l *life) some(side int) {
	r := l.r
	way := l.m.Side(side).Waiting()
	switch a := r.Intn(1000); {
	case a < 800 && len(way) > 0:
		id := way[min(r.Intn(len(way)), r.Intn(4))]
		l.do(at(side, api.Step{Kind: []int{api.SLose, api.SDouble, api.STake}[min(r.Intn(80), 2)], N: id}))
	case a%10 == 0:
		l.do(tick(side, l.someone(side)))
	case a%10 < 9:
		l.client(r.Intn(2))
	case a < 996:
		l.do(at(1, api.Step{Kind: 1 + r.Intn(2), Hand: r.Intn(2), Node: l.someone(1)})) // whoever looks at the mirror
	default:
		l.do(api.Move{Kind: r.Intn(15) - 1, Side: r.Intn(4) - 1, Node: r.Intn(7) - 1})
	}
}

// trouble is what may happen to nodes.
func (l *life) trouble(side int) {
	r := l.r
	s := api.Step{Node: r.Intn(api.MaxNodes), Other: r.Intn(api.MaxNodes), Timeout: 1 + r.Intn(12), Keep: r.Intn(5) - 1, Tear: r.Intn(50) - 1}
	switch a := r.Intn(50); {
	case a < 5:
		s.Kind = api.SCrash
	case a < 10:
		s.Kind, s.N = api.SArm, r.Intn(8)
	case a < 28:
		s.Kind = api.SStart
	case a < 36:
		s.Kind, s.Node = api.SPack, l.someone(side)
	case a < 41:
		s.Kind, s.Node = api.SRoster, l.leader(side)
		s.Roster = l.near(side)
	case a < 44:
		s.Kind, s.Node = api.SHand, l.leader(side)
	default:
		s.Kind, s.N = api.SWall, []int{0, 0, r.Intn(64)}[r.Intn(3)]
	}
	l.do(at(side, s))
}

// near is a roster that differs from a base's by a node.
func (l *life) near(side int) api.Roster {
	var r api.Roster
	if n := l.m.Side(side).Node(l.leader(side)); n != nil {
		r = n.State().Base.Roster
	}
	i := l.r.Intn(api.MaxNodes)
	without := func(list []int) []int {
		return slices.DeleteFunc(slices.Clone(list), func(n int) bool { return n == i })
	}
	next := api.Roster{Voters: without(r.Voters), Learners: without(r.Learners)}
	switch {
	case l.r.Intn(3) == 0:
	case quorum.Has(r, i) && !quorum.Votes(r, i):
		next.Voters = append(next.Voters, i)
	default:
		next.Learners = append(next.Learners, i)
	}
	return next
}

// room tells whether there are few sessions at the source: whoever begins one, or leaves one behind, makes them more.
func (l *life) room(most int) bool {
	coming := 0
	for i := range api.MaxNodes {
		n := l.m.Side(0).Node(i)
		if n == nil {
			continue
		}
		mine := 0
		for _, x := range n.State().Rows {
			if c, _ := machine.Get(x.Data); x.Index > l.past[0].end() && c.Kind == api.COpen {
				mine++
			}
		}
		coming = max(coming, mine)
	}
	return len(l.past[0].m.Seats())+coming < most
}

// waits is the kind of the command that a client of the source waits for; below 0: it waits for none.
func (l *life) waits(h int) int {
	all := l.m.Side(0).Calls()
	for _, i := range l.open[0] {
		if all[i].Hand == h {
			return all[i].Command.Kind
		}
	}
	return -1
}

// client is what one of the source's clients does.
func (l *life) client(h int) {
	s := api.Step{Kind: api.SAsk, Hand: h, Node: l.someone(0)}
	switch kind := l.waits(h); {
	case kind < 0:
		s.Command = l.command()
		if l.do(at(0, s)) == api.ErrStep && l.room(4) { // it has no session
			s.Command = opens
			l.do(at(0, s))
		}
	case l.r.Intn(400) == 0 && l.room(4):
		s.Kind = api.SQuit
		l.do(at(0, s))
	case l.r.Intn(20) == 0 && (kind != api.COpen || l.r.Intn(3) == 0 && l.room(4)):
		s.Kind = api.SAgain
		l.do(at(0, s))
	}
}

// command is one that a client of the source may want.
func (l *life) command() api.Command {
	r := l.r
	name := []string{"v", "w"}[r.Intn(2)]
	m := l.past[0].m
	subs := m.Subs()
	if r.Intn(4) > 0 { // of the relay's it seldom takes hold
		subs = slices.DeleteFunc(subs, func(s api.Sub) bool { return s.ID == l.m.Relay().Sub })
	}
	switch r.Intn(40) {
	case 0:
		return api.Command{Kind: api.CView, View: api.View{Name: name, Kind: api.VSum, Field: "g", Of: "n"}}
	case 1:
		return api.Command{Kind: api.CView, View: api.View{Name: name, Kind: api.VIndex, Field: "g"}}
	case 2:
		return api.Command{Kind: api.CDrop, View: api.View{Name: name}}
	case 3:
		if len(subs) < 2 {
			return api.Command{Kind: api.CSub, Filter: api.Filter{Kind: api.FPrefix, Text: "b"}}
		}
		return api.Command{Kind: api.CUnsub, Sub: subs[r.Intn(len(subs))].ID}
	case 4:
		if len(subs) < 2 {
			return api.Command{Kind: api.CGroup, View: api.View{Name: name}, Pos: 2}
		}
		return api.Command{Kind: api.CGone, View: api.View{Name: name}}
	case 5, 6, 7, 8:
		if len(subs) > 0 {
			s := subs[r.Intn(len(subs))]
			return api.Command{Kind: api.CAck, Sub: s.ID, Pos: m.At() - r.Intn(9)}
		}
	case 9:
		return api.Command{Kind: api.CApply, From: m.Mark(), Pos: m.Mark() + 1, Ops: append(l.ops(), l.ops()...)}
	case 10:
		return api.Command{Kind: api.CReset, Pos: m.Mark() + 1, Ops: slices.DeleteFunc(l.ops(), func(o api.Op) bool { return !o.Has })}
	case 11, 12, 13:
		return api.Command{}
	case 14:
		return api.Command{Kind: api.CJoin, View: api.View{Name: name}}
	case 15:
		if l.room(4) && r.Intn(5) == 0 {
			return opens
		}
	}
	return api.Command{Kind: api.CWrite, Ops: l.ops()}
}

// ops are some operations on unlike keys, of which there are 18 in all; some numbers are great.
func (l *life) ops() []api.Op {
	var out []api.Op
	for i := range 1 + l.r.Intn(6) {
		l.value++
		o := api.Op{Key: string(rune('a'+l.r.Intn(3))) + strconv.Itoa(i)}
		if l.r.Intn(5) > 0 {
			n := strconv.Itoa(l.value)
			if l.r.Intn(6) == 0 {
				n = "9223372036854775" + strconv.Itoa(100+l.value%700)
			}
			o.Has, o.Value = true, "g:"+strconv.Itoa(l.r.Intn(2))+" n:"+n
		}
		out = append(out, o)
	}
	return out
}

// relay is what the relay does next, more or less.
func (l *life) relay() {
	r := l.r
	do := func(kind, side int) api.Errno {
		return l.do(api.Move{Kind: kind, Side: side, Node: l.someone(side)})
	}
	k := l.m.Relay()
	side := r.Intn(2)
	switch a := r.Intn(100); {
	case a < 1:
		if l.room(4) {
			do(api.RForget, 0)
		}
	case a < 3 || l.m.asked[side] != 0 && a < 10:
		if side == 1 || l.m.asked[0] != api.ROpen || r.Intn(20) == 0 && l.room(4) {
			do(api.RAgain, side)
		}
	case a < 4:
		do(api.RDrop, 0)
	case k.Sub == 0 || a < 5:
		if len(l.past[0].m.Subs()) < api.MaxSubs && do(api.RSub, 0) == api.ErrStep && l.room(6) {
			do(api.ROpen, 0)
		}
	case !k.Known && a < 50 || a < 8:
		do(api.RLearn, 1)
	case !k.Known && k.Seen == 0 || a < 11:
		do(api.RLook, 0)
	case !k.Known || a < 14:
		do(api.RReset, 1)
	case a < 35:
		if do(api.RAck, 0) == api.ErrStep && l.room(5) {
			do(api.ROpen, 0)
		}
	case k.To == 0:
		l.do(api.Move{Kind: api.RPull, Node: r.Intn(api.MaxNodes)})
	default:
		do(api.RPush, 1)
	}
}

// come takes all messages of a side.
func (l *life) come(side int) {
	l.t.Helper()
	for n := 0; len(l.m.Side(side).Waiting()) > 0; n++ {
		if n > 5000 {
			l.t.Fatal("the messages do not end")
		}
		ok(l.t, l.do(take(side, l.m.Side(side).Waiting()[0])))
	}
}

// calm has all nodes of a side run, without a wall, all messages come, and one lead: that one.
func (l *life) calm(side int) int {
	l.t.Helper()
	l.do(wall(side, 0))
	for i := range api.MaxNodes {
		if l.m.Side(side).Node(i) == nil {
			ok(l.t, l.do(start(side, i)))
		}
		ok(l.t, l.do(at(side, api.Step{Kind: api.SArm, Node: i})))
	}
	l.come(side)
	for n := range 200 {
		i := n / 20 % api.MaxNodes
		if k := l.leader(side); l.m.Side(side).Node(k).State().Role == api.Leading {
			i = k
		}
		l.do(tick(side, i))
		l.come(side)
		s := l.m.Side(side).Node(i).State()
		if s.Role == api.Leading && n > 2 && s.Commit == s.Base.Index+len(s.Rows) {
			return i
		}
	}
	l.t.Fatal("P5: none leads")
	return 0
}

// end holds P3: all that was committed is there; and P6: a relay that knows nothing but its subscriber brings the mirror to the source's end.
func (l *life) end() {
	l.t.Helper()
	at := [2]int{l.calm(0), l.calm(1)}
	for side := range 2 {
		if n := l.m.Side(side).Node(at[side]).State().Commit; n != l.past[side].end() {
			l.t.Fatal("P3: not all that was committed", n, l.past[side].end())
		}
	}
	do := func(kind, side int) api.Errno {
		e := l.do(api.Move{Kind: kind, Node: at[side]})
		l.come(side)
		return e
	}
	do(api.RForget, 0)
	l.empty(at[0])
	do(api.RLearn, 1)
	if k := l.m.Relay(); k.Sub > 0 && k.Known {
		l.seen["the end by its subscriber "+strconv.Itoa(int(l.pulls(do)))]++
	}
	if !l.there(at) {
		do(api.RDrop, 0)
		if do(api.RSub, 0) == api.ErrStep {
			ok(l.t, do(api.ROpen, 0), do(api.RSub, 0))
		}
		ok(l.t, do(api.RLook, 0), do(api.RReset, 1), l.pulls(do))
		l.seen["the end anew"]++
	}
	if !l.there(at) {
		l.t.Fatal("P6: not at the end", show(l.m.Relay()))
	}
}

// pulls has the relay pull and push, till nothing is left.
func (l *life) pulls(do func(kind, side int) api.Errno) api.Errno {
	for range 100 {
		if e := do(api.RPull, 0); e != api.OK || l.m.Relay().To == 0 {
			return e
		}
		ok(l.t, do(api.RPush, 1))
	}
	return api.ErrMore
}

// empty has client 0 end all subscribers but the relay's, so that there is room for one.
func (l *life) empty(i int) {
	l.t.Helper()
	do := func(c api.Command) api.Errno {
		e := l.do(at(0, api.Step{Kind: api.SAsk, Node: i, Command: c}))
		l.come(0)
		return e
	}
	l.do(at(0, api.Step{Kind: api.SQuit, Node: i}))
	l.come(0)
	ok(l.t, do(opens))
	for _, s := range l.past[0].m.Subs() {
		if s.ID != l.m.Relay().Sub {
			ok(l.t, do(api.Command{Kind: api.CUnsub, Sub: s.ID}))
		}
	}
}

// there tells whether the mirror is at the source's end.
func (l *life) there(at [2]int) bool {
	source, mirror := l.m.Side(0).Node(at[0]).Machine(), l.m.Side(1).Node(at[1]).Machine()
	return mirror.Mark() == source.At() && slices.Equal(mirror.Keys("", ""), begin(source.Keys("", ""), l.prefix))
}

// P22.2, P22.3, and that it is the model.
func TestLivesAreTheModels(t *testing.T) {
	lives(t, 0, 8, 4, true)
}

// P22.3, P1 to P4, P6
func TestLives(t *testing.T) {
	seen := lives(t, 1000, 60, 10, false)
	for name, least := range least() {
		if seen[name] < least {
			t.Error("seldom:", name, seen[name])
		}
	}
}

func lives(t *testing.T, from, n, moves int, both bool) map[string]int {
	t.Helper()
	seen := map[string]int{}
	for seed := range n {
		l := newLife(t, int64(from+seed), seen, both)
		for range moves {
			l.live(150)
		}
		l.end()
		seen["let go"] += l.past[0].gone
		seen["marks"] += len(slices.Compact(slices.Clone(l.past[1].marks)))
	}
	return seen
}

// least is how often what should be met in lives is met at least.
func least() map[string]int {
	return map[string]int{
		"let go": 9000, "marks": 200,
		"move 2 error 0": 60, "move 7 error 0": 250, "move 7 error 5": 30, "move 7 error 80": 200, "move 7 error 81": 15, "move 7 error 82": 30, "move 7 error 150": 5,
		"move 11 error 0": 150, "move 12 error 0": 10,
		"side 0 answer 2 error 72": 50, "side 0 answer 7 error 0": 100, "side 0 answer 8 error 0": 100, "side 0 answer 11 error 0": 50,
		"side 1 answer 0 error 0": 900, "side 1 answer 10 error 0": 100, "side 1 answer 11 error 0": 60,
		"the end anew": 20, "the end by its subscriber 0": 3, "the end by its subscriber 81": 3,
	}
}
