package raft

import (
	"fmt"
	"math"
	"math/rand"
	"testing"

	"tidemark/api"
)

// A thrower makes states by hand, and inputs that are near to them.
type thrower struct{ *rand.Rand }

func pick[T any](r thrower, l ...T) T { return l[r.Intn(len(l))] }

// often is true n times of a hundred.
func (r thrower) often(n int) bool { return r.Intn(100) < n }

// roster is one that may be, with that many nodes at most.
func (r thrower) roster() api.Roster {
	var out api.Roster
	nodes := r.Perm(5)[:1+r.Intn(5)]
	for i, n := range nodes {
		if i == 0 || r.often(70) {
			out.Voters = append(out.Voters, n)
		} else {
			out.Learners = append(out.Learners, n)
		}
	}
	return out
}

// near is a roster one step from another one, or nearly.
func (r thrower) near(old api.Roster) api.Roster {
	var out api.Roster
	n := r.Intn(5)
	was := "neither"
	for _, v := range old.Voters {
		if v == n {
			was = "votes"
		} else {
			out.Voters = append(out.Voters, v)
		}
	}
	for _, v := range old.Learners {
		if v == n {
			was = "learns"
		} else {
			out.Learners = append(out.Learners, v)
		}
	}
	if was == "learns" && r.often(70) || was == "neither" && r.often(10) {
		out.Voters = append(out.Voters, n)
	} else if was == "votes" && r.often(50) || was == "neither" {
		out.Learners = append(out.Learners, n)
	}
	return out
}

func (r thrower) badRoster() api.Roster {
	return pick(r, api.Roster{}, of(nil, 1), of(some(0, 0)), of(some(0), 0), of(some(5)), of(some(0, 1), -1))
}

// data is a row's bytes.
func (r thrower) data() []byte {
	switch r.Intn(8) {
	case 0:
		return change(r.roster())
	case 1:
		return change(pick(r, of(nil, 1), of(some(0, 0)), of(nil)))
	case 2:
		return bytesOf(r.Intn(4), 9)
	case 3:
		return opens()
	}
	return put(api.Command{})
}

func (r thrower) rows(index, term, n, top int) []api.Entry {
	var l []api.Entry
	for range n {
		if index++; index > most {
			break
		}
		if r.often(25) {
			term++
		}
		term = min(max(term, 1), top)
		if term == 0 {
			break
		}
		l = append(l, api.Entry{Index: index, Term: term, Data: r.data()})
	}
	return l
}

func (r thrower) base() api.Base {
	b := api.Base{Index: pick(r, 0, 0, 1, 5, 9, most-4, most), Term: r.Intn(4), Roster: r.roster()}
	if r.often(5) {
		b.Roster = api.Roster{}
	}
	if r.often(60) {
		b.Data = bytesOf(pick(r, 0, 1, 399, 400, 401, 800, 900), r.Intn(9))
	}
	return b
}

func (r thrower) state() api.State {
	s := api.State{ID: r.Intn(5), Base: r.base(), Role: pick(r, 0, 1, 2, 3, 3), Leader: r.Intn(6), Timer: r.Intn(8), Timeout: 1 + r.Intn(8)}
	s.Hard = api.Hard{Term: s.Base.Term + r.Intn(4), Vote: r.Intn(6)}
	if r.often(4) {
		s.Hard.Term = most - r.Intn(2)
	}
	if r.often(10) {
		s.Base.Roster = pick(r, of(some(s.ID)), of(some(s.ID), (s.ID+1)%5))
	}
	s.Rows = r.rows(s.Base.Index, s.Base.Term, r.Intn(10), s.Hard.Term)
	end, _ := modelEnd(s)
	s.Commit = s.Base.Index + r.Intn(end-s.Base.Index+1)
	s.First, s.Round = max(0, s.Commit-r.Intn(3)+r.Intn(2)), r.Intn(5)
	if r.often(3) {
		s.Round, s.Timer = most, most
	}
	s.First = min(s.First, most)
	for n := range s.Peers {
		if r.often(70) {
			s.Peers[n] = r.peer(s, end)
		}
	}
	for range r.Intn(3) {
		s.Votes = append(s.Votes, r.Intn(5))
	}
	for range r.Intn(4) {
		s.Looks = append(s.Looks, api.Look{ID: r.Intn(100), Index: s.Commit, Round: r.Intn(6)})
	}
	if r.often(60) {
		s.Taken = api.Base{Index: s.Commit + 1 + r.Intn(3), Term: s.Hard.Term - r.Intn(2), Roster: r.roster(), Data: bytesOf(pick(r, 0, 1, 7, 400, api.MaxImage-3, api.MaxImage), 4)}
	}
	return s
}

func (r thrower) peer(s api.State, end int) api.Peer {
	p := api.Peer{Match: max(0, end-r.Intn(6)), Round: r.Intn(6)}
	p.Next = pick(r, end+1, p.Match+1, max(0, s.Base.Index-r.Intn(2)), max(0, end-r.Intn(9)))
	p.Next = max(0, min(p.Next, end+1))
	if n := len(s.Base.Data); n > 0 {
		p.At = min(n, pick(r, 0, 400, r.Intn(n+1)))
	}
	if r.often(5) {
		p = api.Peer{}
	}
	return p
}

// termAt is the term of a log at an index, or nearly.
func (r thrower) termAt(s api.State, index int) int {
	term := s.Hard.Term
	for _, e := range append([]api.Entry{{Index: s.Base.Index, Term: s.Base.Term}}, s.Rows...) {
		if e.Index == index {
			term = e.Term
		}
	}
	if r.often(15) {
		term += r.Intn(3) - 1
	}
	return max(0, term)
}

func (r thrower) message(s api.State) api.Msg {
	end, _ := modelEnd(s)
	m := msg(1+r.Intn(9), r.Intn(5), s.ID, pick(r, s.Hard.Term, s.Hard.Term, s.Hard.Term, s.Hard.Term+1, s.Hard.Term+1, s.Hard.Term+2, s.Hard.Term-1))
	m.Index = pick(r, end, end, end+1, s.Commit, s.Base.Index, max(0, s.Base.Index-2), end-r.Intn(end-s.Base.Index+1), s.Base.Index+r.Intn(12))
	m.Before = r.termAt(s, m.Index)
	m.Commit, m.Round, m.Yes, m.Last = max(0, s.Commit+r.Intn(6)-1), r.Intn(7), r.often(60), r.often(50)
	switch m.Kind {
	case api.MGrant:
		if s.Role == api.Asking && r.often(70) {
			m.Yes, m.Term = true, s.Hard.Term+1
		}
	case api.MRows:
		m.Rows = r.batch(s, m)
	case api.MPart:
		m = r.part(s, m)
	case api.MGot:
		if r.often(60) {
			m.Index = s.Base.Index
		}
		m.At = r.Intn(len(s.Base.Data) + 2)
	}
	return m
}

// batch is entries behind a message's Index: the log's own ones, and others, perhaps.
func (r thrower) batch(s api.State, m api.Msg) []api.Entry {
	var l []api.Entry
	at, term := m.Index, m.Before
	for range r.Intn(7) {
		i := at + 1 - s.Base.Index - 1
		if i < 0 || i >= len(s.Rows) || r.often(10) {
			break
		}
		l = append(l, s.Rows[i])
		at, term = at+1, s.Rows[i].Term
	}
	l = append(l, r.rows(at, term, r.Intn(7-len(l)), m.Term)...)
	return tidyRows(l)
}

func (r thrower) part(s api.State, m api.Msg) api.Msg {
	m.Base = api.Base{Index: max(0, s.Commit+r.Intn(4)), Term: max(0, m.Term-r.Intn(2)), Roster: r.roster(), Data: bytesOf(pick(r, 0, 1, 3, 4, 400), 5)}
	if r.often(5) {
		m.Base.Roster = api.Roster{}
	}
	if r.often(60) && s.Taken.Index > 0 {
		m.Base.Index, m.Base.Term = s.Taken.Index, s.Taken.Term
	}
	m.Index, m.At = m.Base.Index, pick(r, 0, 0, len(s.Taken.Data), len(s.Taken.Data), len(s.Taken.Data)+1)
	return m
}

func (r thrower) input(s api.State) api.Input {
	end, _ := modelEnd(s)
	in := api.Input{Kind: pick(r, 1, 1, 2, 2, 2, 2, 2, 2, 2, 2, 3, 4, 4, 5, 6, 7), Timeout: r.Intn(9) - 1, Data: pick(r, opens(), opens(), r.data()), ID: s.Base.Index + r.Intn(end-s.Base.Index+2), Node: r.Intn(6) - 1, Roster: r.roster()}
	if r.often(70) {
		m := model{s: s, log: map[int]api.Entry{}}
		m.read(s.Base, s.Rows)
		now, _ := m.roster(end)
		in.Roster = r.near(now)
	}
	if r.often(5) {
		in.Roster = r.badRoster()
	}
	if in.Kind == api.IMsg {
		in.Msg = r.message(s)
	}
	if r.often(1) {
		in.Kind = pick(r, 0, 8, -1)
	}
	return in
}

// P19.1 to P19.4: states and inputs that are made by hand are done as the model does them.
func TestByHand(t *testing.T) {
	r := thrower{rand.New(rand.NewSource(19))}
	seen := map[string]int{}
	for n := range 60000 {
		s := r.state()
		if e := Check(s); (e == api.OK) != (modelWrong(s) == "") {
			t.Fatal(n, show(s), e, modelWrong(s))
		}
		in := r.input(s)
		if r.often(3) {
			s = leader()
			w := wrong()
			w[r.Intn(len(w))](&s)
		}
		if e := Right(in.Msg); (e == api.OK) != modelRight(in.Msg) {
			t.Fatal(n, show(in.Msg), e)
		}
		s1, o1 := Step(s, in)
		s2, o2 := modelStep(s, in)
		if !alikeStates(s1, s2) || !alikeOutputs(o1, o2) {
			t.Fatalf("%d: %s of %s:\n%s\n%s\nnot\n%s\n%s", n, show(in), show(s), show(s1), show(o1), show(s2), show(o2))
		}
		count(seen, s, in, s1, o1)
	}
	expect(t, seen, 8)
}

// count notes what came of a step.
func count(seen map[string]int, s api.State, in api.Input, s1 api.State, o api.Output) {
	name := fmt.Sprint("input ", in.Kind)
	if in.Kind == api.IMsg {
		name = fmt.Sprint("message ", in.Msg.Kind)
	}
	if o.Err != api.OK {
		seen[fmt.Sprint(name, " error ", int(o.Err))]++
		return
	}
	seen[fmt.Sprint(name, " at role ", s.Role)]++
	seen[fmt.Sprint("role ", s.Role, " to ", s1.Role)]++
	for _, m := range o.Send {
		seen[fmt.Sprint(name, " sends ", m.Kind, " ", m.Yes, " ", m.Last)]++
	}
	for what, is := range map[string]bool{"cuts": o.Cut > 0, "rows": len(o.Rows) > 0, "based": o.Based, "reads": len(o.Reads) > 0, "commits": s1.Commit > s.Commit, "hard": o.Hard, "sends nothing": len(o.Send) == 0} {
		if is {
			seen[name+" "+what]++
		}
	}
}

// expect fails for each thing of these that was not seen so often.
func expect(t *testing.T, seen map[string]int, least int) {
	t.Helper()
	want := []string{
		"input 1 at role 0", "input 1 at role 3", "input 1 sends 1 false false", "input 1 sends 5 false false", "input 1 sends 7 false true", "input 1 sends 7 false false", "input 1 rows", "input 1 commits",
		"input 3 at role 3", "input 3 rows", "input 3 commits", "input 3 reads", "input 3 error 100", "input 3 error 130", "input 3 error 7",
		"input 4 rows", "input 4 commits", "input 4 error 130", "input 4 error 131", "input 4 error 110", "input 4 error 111", "input 4 error 7",
		"input 5 at role 3", "input 5 reads", "input 5 error 130", "input 5 error 131",
		"input 6 based", "input 6 error 120", "input 7 sends 9 false false", "input 7 error 130", "input 7 error 110", "input 7 error 131", "input 1 error 1", "input 0 error 1",
		"message 1 sends 2 true false", "message 1 sends 2 false false", "message 2 sends 3 false false", "message 2 hard",
		"message 3 sends 4 true false", "message 3 sends 4 false false", "message 3 hard", "message 4 rows", "message 4 sends 5 false false",
		"message 5 cuts", "message 5 rows", "message 5 commits", "message 5 sends 6 true false", "message 5 sends 6 false false", "message 5 sends nothing", "message 5 error 132",
		"message 6 commits", "message 6 reads", "message 6 sends 5 false false", "message 6 sends 7 false true", "message 6 sends 7 false false", "message 6 sends nothing", "message 6 hard",
		"message 7 based", "message 7 sends 8 false true", "message 7 sends 8 false false", "message 7 sends 6 false false", "message 7 sends nothing", "message 7 error 132",
		"message 8 commits", "message 8 reads", "message 8 sends 5 false false", "message 8 sends 7 false true", "message 8 sends nothing",
		"message 9 sends 3 false false", "message 9 rows", "message 9 sends nothing",
		"role 0 to 1", "role 0 to 2", "role 0 to 3", "role 1 to 0", "role 1 to 2", "role 1 to 3", "role 2 to 0", "role 2 to 1", "role 2 to 3", "role 3 to 0", "role 3 to 2",
	}
	for _, name := range want {
		if seen[name] < least {
			t.Error("seldom:", name, seen[name])
		}
	}
}

// P19.2: messages made of all kinds of numbers.
func TestRightByHand(t *testing.T) {
	r := thrower{rand.New(rand.NewSource(192))}
	numbers := func() int {
		return pick(r, 0, 0, 1, 1, 2, 3, 3, 4, 5, 6, 9, -1, most, most, most+1, math.MinInt, math.MaxInt)
	}
	right, wrong := map[int]int{}, map[int]int{}
	all := rightMessages()
	for n := range 60000 {
		m := pick(r, all...)
		for range r.Intn(3) {
			*pick(r, &m.Kind, &m.From, &m.To, &m.Term, &m.Index, &m.Before, &m.Commit, &m.Round, &m.At, &m.Base.Index, &m.Base.Term) = numbers()
		}
		if len(m.Rows) > 0 && r.often(20) {
			m.Rows = tidyRows(m.Rows)
			*pick(r, &m.Rows[0].Index, &m.Rows[0].Term, &m.Rows[len(m.Rows)-1].Term) = numbers()
		}
		e := Right(m)
		if (e == api.OK) != modelRight(m) || e != api.OK && e != api.ErrMsg {
			t.Fatal(n, show(m), e)
		}
		if e == api.OK {
			right[m.Kind]++
		} else {
			wrong[m.Kind]++
		}
	}
	for kind := 1; kind < 10; kind++ {
		if right[kind] < 300 || wrong[kind] < 300 {
			t.Error("seldom:", kind, right[kind], wrong[kind])
		}
	}
}

// Ends: no call panics, whatever it is given.
func TestEnds(t *testing.T) {
	r := thrower{rand.New(rand.NewSource(4))}
	any := func() int {
		return pick(r, 0, 1, 2, 3, 4, 5, 7, -1, most, most+1, math.MinInt, math.MaxInt, math.MaxInt-1)
	}
	for range 20000 {
		s := r.state()
		in := r.input(s)
		for range r.Intn(4) {
			*pick(r, &s.ID, &s.Hard.Term, &s.Hard.Vote, &s.Role, &s.Leader, &s.Commit, &s.Base.Index, &s.Base.Term, &s.Timer, &s.Timeout, &s.First, &s.Round, &s.Taken.Index, &s.Taken.Term, &s.Peers[1].Next, &s.Peers[2].Match, &s.Peers[3].At, &s.Peers[4].Round) = any()
		}
		for range r.Intn(3) {
			*pick(r, &in.Kind, &in.Timeout, &in.ID, &in.Node, &in.Msg.Kind, &in.Msg.From, &in.Msg.To, &in.Msg.Term, &in.Msg.Index, &in.Msg.Before, &in.Msg.Commit, &in.Msg.Round, &in.Msg.At) = any()
		}
		if r.often(10) {
			in.Roster, s.Taken.Roster = r.badRoster(), r.badRoster()
		}
		s1, o1 := Step(s, in)
		s2, o2 := modelStep(s, in)
		if !alikeStates(s1, s2) || !alikeOutputs(o1, o2) {
			t.Fatalf("%s of %s:\n%s\n%s\nnot\n%s\n%s", show(in), show(s), show(s1), show(o1), show(s2), show(o2))
		}
	}
}
