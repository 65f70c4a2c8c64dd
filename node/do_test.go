package node

import (
	"bytes"
	"math/rand"
	"slices"
	"testing"

	"tidemark/api"
	"tidemark/disk"
	"tidemark/machine"
	"tidemark/pack"
	"tidemark/save"
)

// lone is a node that leads alone, on a disk of its own.
func lone(t *testing.T, room int) (*Node, *disk.Disk) {
	t.Helper()
	d := empty(t, room)
	n := open(t, 0, d, of(some(0)))
	ok(t, n.Do(tick(1)).Err)
	return n, d
}

func write(c api.Command) api.Input { return api.Input{Kind: api.IWrite, Data: put(c)} }

// rowsMsg is entries of a leader, node 0, to node 1.
func rowsMsg(term, index, before, commit int, l ...api.Entry) api.Input {
	return heard(api.Msg{Kind: api.MRows, To: 1, Term: term, Index: index, Before: before, Commit: commit, Rows: l})
}

// partMsg is a base's piece of the same.
func partMsg(term int, b api.Base, from, to int) api.Input {
	m := api.Msg{Kind: api.MPart, To: 1, Term: term, Index: b.Index, At: from, Last: to == len(b.Data)}
	b.Data = b.Data[from:to]
	m.Base = b
	return heard(m)
}

// follows is node 1, which has some rows of the term 1 behind a base of 4, all up to 5 done.
func follows(t *testing.T) (*Node, *disk.Disk) {
	t.Helper()
	d := kept(t, api.Hard{Term: 1, Vote: 1}, baseAt(4, 1), opened(5, 3, 1)...)
	n, e := Open(1, d, api.Roster{}, 9)
	ok(t, e, n.Do(rowsMsg(1, 7, 1, 5)).Err)
	return n, d
}

// refuses fails unless nothing but an error comes of an input.
func refuses(t *testing.T, n *Node, d *disk.Disk, in api.Input, want api.Errno) {
	t.Helper()
	s, image, bytes := n.State(), n.Machine().Image(), lies(t, d)
	ok(t, d.Arm(1, 0, 0)) // nothing goes to the disk, either
	same(t, "done", n.Do(in), api.Done{Err: want})
	ok(t, d.Arm(0, 0, 0))
	same(t, "state", n.State(), s)
	same(t, "machine", n.Machine().Image(), image)
	same(t, "disk", lies(t, d), bytes)
}

// P20.2: at raft's error nothing is done.
func TestRaftsErrors(t *testing.T) {
	n, d := follows(t)
	wrong := rowsMsg(1, 7, 1, 5)
	wrong.Msg.To = 2
	for _, c := range []struct {
		in   api.Input
		want api.Errno
	}{
		{api.Input{}, api.ErrArg}, {api.Input{Kind: 8}, api.ErrArg}, {api.Input{Kind: -1}, api.ErrArg},
		{api.Input{Kind: api.IMsg}, api.ErrMsg}, {wrong, api.ErrMsg}, {rowsMsg(1, 7, 1, -1), api.ErrMsg},
		{api.Input{Kind: api.IWrite}, api.ErrCommand}, {api.Input{Kind: api.IWrite, Data: []byte("no command")}, api.ErrCommand},
		{write(api.Command{}), api.ErrCommand}, {write(opens), api.ErrLeader},
		{api.Input{Kind: api.IRoster, Roster: of(some(1))}, api.ErrLeader}, {api.Input{Kind: api.IRead, ID: 1}, api.ErrLeader}, {api.Input{Kind: api.IHand, Node: 2}, api.ErrLeader},
	} {
		refuses(t, n, d, c.in, c.want)
	}
	n, d = lone(t, 1<<22)
	for _, c := range []struct {
		in   api.Input
		want api.Errno
	}{
		{api.Input{Kind: api.IRoster, Roster: of(some(0, 0))}, api.ErrRoster}, {api.Input{Kind: api.IRoster, Roster: of(some(0, 1))}, api.ErrChange},
		{api.Input{Kind: api.IHand}, api.ErrRoster}, {api.Input{Kind: api.IHand, Node: 1}, api.ErrRoster},
	} {
		refuses(t, n, d, c.in, c.want)
	}
	same(t, "goes on", n.Do(write(opens)), api.Done{Index: 2, Answers: []api.Answer{{Index: 2, Term: 1, Reply: api.Reply{N: 1}}}})
}

// P20.2: what is packed is the machine as it is, whatever is handed in.
func TestPack(t *testing.T) {
	n, d := follows(t)
	for _, in := range []api.Input{{Kind: api.IPack}, {Kind: api.IPack, ID: 6, Data: []byte("x")}, {Kind: api.IPack, ID: -1, Data: make([]byte, api.MaxImage+1)}} {
		ok(t, n.Do(rowsMsg(1, 7, 1, n.State().Commit+1)).Err)
		was := n.State()
		image, m := imageAt(was.Commit), n.Machine()
		same(t, "done", n.Do(in), api.Done{})
		if n.Machine() != m {
			t.Error("another machine")
		}
		want := was
		want.Base = api.Base{Index: was.Commit, Term: 1, Roster: was.Base.Roster, Data: pack.Pack(image)}
		want.Rows = opened(was.Commit+1, 7-was.Commit, 1)
		same(t, "state", n.State(), want)
		same(t, "machine", n.Machine().Image(), image)
		other := open(t, 1, d.Clone(), api.Roster{})
		same(t, "opened", other.State().Base, want.Base)
		same(t, "opened", other.Machine().Image(), image)
		refuses(t, n, d, in, api.ErrRows) // the base is there already
		if n.State().Commit == 7 {
			return
		}
		ok(t, n.Do(rowsMsg(1, 7, 1, n.State().Commit)).Err)
	}
}

// wide is a machine's image that is more than a piece, packed too.
func wide() []byte {
	r := rand.New(rand.NewSource(1))
	m := machine.New()
	for i := range 20 {
		s := make([]rune, 40)
		for j := range s {
			s[j] = rune('a' + r.Intn(26))
		}
		c := api.Command{Kind: api.CApply, From: i, Pos: i + 1, Ops: []api.Op{{Key: string(s[:9]), Has: true, Value: string(s)}}}
		m.Apply(i+1, put(c))
	}
	return m.Image()
}

// P20.2: a base that comes by a message is another machine; nobody is answered by that.
func TestBaseByMessage(t *testing.T) {
	n, d := follows(t)
	b := api.Base{Index: 20, Term: 2, Roster: of(some(0, 1, 2)), Data: pack.Pack(wide())}
	if len(b.Data) <= api.MaxPart {
		t.Fatal("not more than a piece")
	}
	in := partMsg(2, b, 0, api.MaxPart)
	same(t, "begun", n.Do(in), api.Done{Send: []api.Msg{{Kind: api.MGot, From: 1, Term: 2, Index: 20, At: api.MaxPart}}})
	same(t, "as it was", n.Machine().Image(), imageAt(5))
	same(t, "ended", n.Do(partMsg(2, b, api.MaxPart, len(b.Data))), api.Done{Send: []api.Msg{{Kind: api.MGot, From: 1, Term: 2, Index: 20, Last: true}}})
	same(t, "state", n.State(), api.State{ID: 1, Hard: api.Hard{Term: 2}, Base: b, Commit: 20, Leader: 1, Timeout: 9})
	same(t, "machine", n.Machine().Image(), wide())
	other := open(t, 1, d.Clone(), api.Roster{})
	same(t, "opened", other.State().Base, b)
	same(t, "opened", other.Machine().Image(), wide())
	same(t, "goes on", n.Do(rowsMsg(2, 20, 2, 21, opened(21, 1, 2)...)).Answers, []api.Answer{{Index: 21, Term: 2, Reply: api.Reply{N: 1}}})
	same(t, "an old one", n.Do(partMsg(2, baseAt(5, 1), 0, 0)), api.Done{Send: []api.Msg{{Kind: api.MGot, From: 1, Term: 2, Index: 5, Last: true}}})
	if n.Machine().At() != 21 {
		t.Error("it went back")
	}
}

// P20.2: ErrMsg
func TestBaseThatHasNoMachine(t *testing.T) {
	n, d := follows(t)
	good := baseAt(9, 2)
	long := append(bytes.Clone(good.Data), 0)
	for _, data := range [][]byte{nil, []byte("no pack"), imageAt(9), long, pack.Pack(nil), pack.Pack(imageAt(8)), pack.Pack(imageAt(10)), pack.Pack(append(imageAt(9), 0))} {
		b := good
		b.Data = data
		refuses(t, n, d, partMsg(2, b, 0, len(data)), api.ErrMsg)
	}
	same(t, "goes on", n.Do(partMsg(2, good, 0, len(good.Data))), api.Done{Send: []api.Msg{{Kind: api.MGot, From: 1, Term: 2, Index: 9, Last: true}}})
	same(t, "machine", n.Machine().Image(), imageAt(9))
	// The pieces that came ahead of it stay.
	n, _ = follows(t)
	b := good
	b.Data = append(bytes.Clone(good.Data[:5]), "no more of a pack"...)
	ok(t, n.Do(partMsg(2, b, 0, 5)).Err)
	for range 2 {
		same(t, "refused", n.Do(partMsg(2, b, 5, len(b.Data))), api.Done{Err: api.ErrMsg})
	}
	same(t, "goes on", n.Do(partMsg(2, good, 5, len(good.Data))).Send[0].Last, true)
	same(t, "machine", n.Machine().Image(), imageAt(9))
}

// a step that keeps something, and how that is kept by a Save.
type keeping struct {
	name string
	node func(t *testing.T) (*Node, *disk.Disk)
	in   api.Input
	keep func(s *save.Save) []api.Errno
	acts int
}

func keepings() []keeping {
	alone := func(t *testing.T) (*Node, *disk.Disk) { return lone(t, 1<<22) }
	b := baseAt(9, 2)
	loneBase := func() api.Base {
		m := machine.New()
		m.Apply(1, put(api.Command{}))
		return api.Base{Index: 1, Term: 1, Roster: of(some(0)), Data: pack.Pack(m.Image())}
	}
	vote := heard(api.Msg{Kind: api.MVote, From: 2, To: 1, Term: 2, Index: 7, Before: 1})
	other := opened(6, 2, 2)
	return []keeping{
		{"a vote", follows, vote, func(s *save.Save) []api.Errno { return []api.Errno{s.SetHard(api.Hard{Term: 2, Vote: 3})} }, 2},
		{"rows", follows, rowsMsg(1, 7, 1, 5, opened(8, 2, 1)...), func(s *save.Save) []api.Errno { return []api.Errno{s.Add(opened(8, 2, 1)...)} }, 3},
		{"a term and rows", follows, rowsMsg(3, 7, 1, 5, opened(8, 1, 3)...), func(s *save.Save) []api.Errno {
			return []api.Errno{s.SetHard(api.Hard{Term: 3}), s.Add(opened(8, 1, 3)...)}
		}, 3},
		{"a term, a cut and rows", follows, rowsMsg(2, 5, 1, 7, other...), func(s *save.Save) []api.Errno {
			return []api.Errno{s.SetHard(api.Hard{Term: 2}), s.Cut(6), s.Add(other...)}
		}, 5},
		{"a term and a base", follows, partMsg(2, b, 0, len(b.Data)), func(s *save.Save) []api.Errno {
			return []api.Errno{s.SetHard(api.Hard{Term: 2}), s.Rebase(b)}
		}, 7},
		{"a pack", alone, api.Input{Kind: api.IPack}, func(s *save.Save) []api.Errno { return []api.Errno{s.Rebase(loneBase())} }, 6},
		{"a write", alone, write(opens), func(s *save.Save) []api.Errno { return []api.Errno{s.Add(opened(2, 1, 1)...)} }, 2},
		{"a commit", follows, rowsMsg(1, 7, 1, 7), func(*save.Save) []api.Errno { return nil }, 0},
		{"a tick", alone, tick(1), func(*save.Save) []api.Errno { return nil }, 0},
	}
}

// P20.2: it is kept in this order, and lasts.
func TestKeeps(t *testing.T) {
	for _, c := range keepings() {
		n, d := c.node(t)
		other := d.Clone()
		s, e := save.Open(other)
		ok(t, e)
		ok(t, c.keep(s)...)
		ok(t, s.Sync(), n.Do(c.in).Err)
		same(t, c.name, lies(t, d), lies(t, other))
		was := n.State()
		ok(t, d.Crash(0, 0), d.Start())
		same(t, c.name+" lasts", lies(t, d), lies(t, other))
		now := open(t, was.ID, d, of(some(0))).State()
		if now.Hard != was.Hard || !alike(now.Base, was.Base) || !alike(now.Rows, was.Rows) {
			t.Error(c.name, show(was), show(now))
		}
	}
}

// P20.2: up to the first error; then the node stands still.
func TestStandsStill(t *testing.T) {
	for _, c := range keepings() {
		for act := 1; act <= c.acts; act++ {
			n, d := c.node(t)
			was, image := n.State(), n.Machine().Image()
			ok(t, d.Arm(act, 99, 0))
			same(t, c.name, n.Do(c.in), api.Done{Err: api.ErrDown})
			ok(t, d.Start()) // that brings the disk back, not the node
			for _, in := range []api.Input{c.in, tick(1), {Kind: api.IPack}, {}, {Kind: 99}, heard(api.Msg{})} {
				same(t, c.name, n.Do(in), api.Done{Err: api.ErrNil})
			}
			same(t, c.name, n.State(), was)
			same(t, c.name, n.Machine().Image(), image)
		}
		n, d := c.node(t)
		ok(t, d.Arm(c.acts+1, 0, 0), n.Do(c.in).Err)
	}
}

// P20.2: what finds no room is not kept.
func TestFullDisk(t *testing.T) {
	n, d := lone(t, 400)
	for i := 2; ; i++ {
		was := n.State()
		out := n.Do(write(opens))
		if out.Err == api.OK {
			same(t, "kept", len(n.State().Rows), i)
			continue
		}
		same(t, "full", out, api.Done{Err: api.ErrFull})
		same(t, "state", n.State(), was)
		same(t, "still", n.Do(tick(1)), api.Done{Err: api.ErrNil})
		same(t, "opened", open(t, 0, d, of(some(0))).State().Rows, was.Rows)
		return
	}
}

// P20.2: Answers are of all rows that are done by it.
func TestAnswers(t *testing.T) {
	n := open(t, 1, empty(t, 1<<22), of(some(0, 1, 2)))
	l := []api.Entry{
		entry(1, 1, api.Command{}), entry(2, 1, opens),
		entry(3, 2, api.Command{Kind: api.CWrite, Session: 1, Seq: 1, Ops: []api.Op{{Key: "a", Has: true, Value: "n:1"}}}),
		entry(4, 2, api.Command{Kind: api.CWrite, Session: 1, Seq: 3, Ops: []api.Op{{Key: "a"}}}),
		{Index: 5, Term: 3, Data: []byte("no command")},
	}
	same(t, "none", n.Do(rowsMsg(3, 0, 0, 0, l...)).Answers, nil)
	replies := []api.Reply{{}, {N: 1}, {}, {Err: api.ErrGap}, {Err: api.ErrCommand}}
	var want []api.Answer
	for i, e := range l {
		want = append(want, api.Answer{Index: e.Index, Term: e.Term, Reply: replies[i]})
	}
	for _, part := range [][]api.Answer{want[:1], nil, want[1:4], nil, want[4:]} {
		commit := n.State().Commit + len(part)
		same(t, "answers", n.Do(rowsMsg(3, 5, 3, commit)).Answers, part)
	}
	m := machine.New()
	for _, e := range l {
		m.Apply(e.Index, e.Data)
	}
	same(t, "machine", n.Machine().Image(), m.Image())
}

// P20.2: Send, Reads, Index are the step's.
func TestReadsAndIndex(t *testing.T) {
	n, _ := lone(t, 1<<22)
	same(t, "read", n.Do(api.Input{Kind: api.IRead, ID: -7}), api.Done{Reads: []api.Look{{ID: -7, Index: 1, Round: 1}}})
	out := n.Do(api.Input{Kind: api.IRoster, Roster: of(some(0), 3)})
	same(t, "roster", out, api.Done{Index: 2, Answers: []api.Answer{{Index: 2, Term: 1}}, Send: []api.Msg{{Kind: api.MRows, To: 3, Term: 1, Commit: 1, Round: 1, Rows: n.State().Rows}}})
	n, e := Open(1, empty(t, 1<<22), of(some(0, 1, 2)), 2)
	ok(t, e)
	same(t, "waits", n.Do(tick(4)), api.Done{})
	ask := api.Msg{Kind: api.MAsk, From: 1, Term: 1}
	second := ask
	second.To = 2
	same(t, "asks", n.Do(tick(4)), api.Done{Send: []api.Msg{ask, second}})
	if s := n.State(); s.Timeout != 4 || s.Role != api.Asking {
		t.Error(s)
	}
}

// What is handed in is neither changed nor kept; what is told is new memory.
func TestMemory(t *testing.T) {
	voters := some(9, 0, 1, 2, 9)
	first := api.Roster{Voters: voters[1:4], Learners: voters[:0]}
	d := empty(t, 1<<22)
	n := open(t, 1, d, first)
	clear(voters)
	same(t, "first", n.State().Base.Roster, of(some(0, 1, 2)))
	room := append(put(opens), "behind"...)
	l := []api.Entry{{Index: 1, Term: 1, Data: room[:len(room)-6]}, {Index: 2, Term: 1, Data: room[:len(room)-6]}}
	ok(t, n.Do(rowsMsg(1, 0, 0, 1, l[0])).Err)
	if string(room[len(room)-6:]) != "behind" || l[1].Index != 2 {
		t.Fatal("changed")
	}
	clear(room)
	clear(l)
	want := n.State()
	same(t, "rows", want.Rows, opened(1, 1, 1))
	got := n.State()
	spoil(got)
	same(t, "told", n.State(), want)
	b := baseAt(6, 1)
	in := partMsg(1, b, 0, len(b.Data))
	in.Msg.Base.Data = bytes.Clone(in.Msg.Base.Data)
	in.Msg.Base.Roster.Voters = slices.Clone(b.Roster.Voters)
	in.Msg.Base.Roster.Learners = slices.Clone(b.Roster.Learners)
	ok(t, n.Do(in).Err)
	spoil(api.State{Base: in.Msg.Base})
	same(t, "base", n.State().Base, b)
	spoil(n.State())
	same(t, "base", n.State().Base, b)
	same(t, "opened", open(t, 1, d, api.Roster{}).State().Base, b)
	leads, _ := lone(t, 1<<22)
	ok(t, leads.Do(api.Input{Kind: api.IRoster, Roster: of(some(0), 1)}).Err)
	data := put(opens)
	out := leads.Do(api.Input{Kind: api.IWrite, Data: data})
	clear(data)
	want = leads.State()
	same(t, "written", want.Rows[2], opened(3, 1, 1)[0])
	for _, m := range out.Send {
		spoil(api.State{Rows: m.Rows, Base: m.Base})
	}
	same(t, "sent", leads.State(), want)
}

// spoil writes into all that a state has.
func spoil(s api.State) {
	for _, l := range [][]byte{s.Base.Data} {
		clear(l[:cap(l)])
	}
	for _, l := range [][]int{s.Base.Roster.Voters, s.Base.Roster.Learners} {
		for i := range l[:cap(l)] {
			l[:cap(l)][i] = 99
		}
	}
	for _, e := range s.Rows {
		clear(e.Data[:cap(e.Data)])
	}
	clear(s.Rows[:cap(s.Rows)])
}
