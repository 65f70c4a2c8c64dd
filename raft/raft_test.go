package raft

import (
	"bytes"
	"fmt"
	"math"
	"reflect"
	"regexp"
	"slices"
	"testing"

	"tidemark/api"
	"tidemark/machine"
)

func put(c api.Command) []byte {
	b, e := machine.Put(c)
	if e != api.OK {
		panic(e)
	}
	return b
}

func some(l ...int) []int { return l }

func of(voters []int, learners ...int) api.Roster {
	return api.Roster{Voters: voters, Learners: learners}
}

func change(r api.Roster) []byte { return put(api.Command{Kind: api.CRoster, Roster: r}) }

// opens is a command that may be written.
func opens() []byte { return put(api.Command{Kind: api.COpen}) }

// rowsOf are rows of such terms from an index on, with nothing to do.
func rowsOf(index int, terms ...int) []api.Entry {
	var l []api.Entry
	for i, term := range terms {
		l = append(l, api.Entry{Index: index + i, Term: term, Data: put(api.Command{})})
	}
	return l
}

func bytesOf(n, seed int) []byte {
	b := make([]byte, n)
	for i := range b {
		b[i] = byte(i*7 + seed)
	}
	return b
}

// leader is node 0 that leads the term 5 of 0, 1, 2 and the learner 3, with entries 11 to 14 behind a base of 900 bytes; up to 13 they are committed.
func leader() api.State {
	return api.State{
		ID: 0, Hard: api.Hard{Term: 5, Vote: 1}, Role: api.Leading, Leader: 1, Commit: 13,
		Base: api.Base{Index: 10, Term: 3, Roster: of(some(0, 1, 2), 3), Data: bytesOf(900, 1)},
		Rows: rowsOf(11, 4, 4, 5, 5), Timer: 2, Timeout: 6, First: 13, Round: 7,
		Peers: [api.MaxNodes]api.Peer{{Next: 13}, {Next: 14, Match: 13, Round: 5}, {Next: 12, Match: 11, Round: 4}, {Next: 7, Round: 1, At: 400}, {Next: 13}},
		Looks: []api.Look{{ID: 70, Index: 13, Round: 6}, {ID: 71, Index: 13, Round: 7}},
	}
}

// follower is node 1 of the same, which heard of the leader.
func follower() api.State {
	s := leader()
	s.ID, s.Hard.Vote, s.Role, s.Looks, s.Round, s.First, s.Commit = 1, 0, api.Follower, nil, 0, 0, 12
	s.Peers = [api.MaxNodes]api.Peer{}
	return s
}

// show is what a thing is, with only the beginning of bytes.
func show(v any) string {
	return regexp.MustCompile(`Data:\[((\d+ ?){0,20})[^\]]*\]`).ReplaceAllString(fmt.Sprintf("%+v", v), "Data:[$1]")
}

// does fails unless a step is what the state, and nothing that is to be done, become by want; by the model, too.
func does(t *testing.T, s api.State, in api.Input, want func(s *api.State, o *api.Output)) {
	t.Helper()
	s0, o0 := tidy(s), api.Output{}
	want(&s0, &o0)
	s1, o1 := Step(s, in)
	if !alikeStates(s1, s0) || !alikeOutputs(o1, o0) {
		t.Errorf("%s of %s:\n%s\n%s\nnot\n%s\n%s", show(in), show(s), show(s1), show(o1), show(s0), show(o0))
	}
	s2, o2 := modelStep(s, in)
	if !alikeStates(s2, s0) || !alikeOutputs(o2, o0) {
		t.Errorf("the model: %s of %s:\n%s\n%s\nnot\n%s\n%s", show(in), show(s), show(s2), show(o2), show(s0), show(o0))
	}
	if e := Check(s0); e != api.OK && Check(s) == api.OK {
		t.Error("a state that may not be", s0)
	}
}

// refuses fails unless a step is an error, and nothing else.
func refuses(t *testing.T, s api.State, in api.Input, e api.Errno) {
	t.Helper()
	does(t, s, in, func(_ *api.State, o *api.Output) { o.Err = e })
}

func nothing(*api.State, *api.Output) {}

func msg(kind, from, to, term int) api.Msg {
	return api.Msg{Kind: kind, From: from, To: to, Term: term}
}

func heard(m api.Msg) api.Input { return api.Input{Kind: api.IMsg, Msg: m} }

func tick(timeout int) api.Input { return api.Input{Kind: api.ITick, Timeout: timeout} }

// The document's example.
func TestExample(t *testing.T) {
	s, e := Start(0, api.Hard{}, api.Base{Roster: of(some(0, 1, 2))}, nil, 2)
	if e != api.OK {
		t.Fatal(e)
	}
	s, o := Step(s, tick(9))
	if len(o.Send) != 0 || s.Timer != 1 {
		t.Fatal(s, o)
	}
	s, o = Step(s, tick(9))
	if want := []api.Msg{msg(api.MAsk, 0, 1, 1), msg(api.MAsk, 0, 2, 1)}; !reflect.DeepEqual(o.Send, want) || s.Timeout != 9 || o.Hard || s.Hard.Term != 0 {
		t.Fatal(s, o)
	}
	grant := msg(api.MGrant, 1, 0, 1)
	grant.Yes = true
	s, o = Step(s, heard(grant))
	if want := []api.Msg{msg(api.MVote, 0, 1, 1), msg(api.MVote, 0, 2, 1)}; !reflect.DeepEqual(o.Send, want) || !o.Hard || s.Hard != (api.Hard{Term: 1, Vote: 1}) {
		t.Fatal(s, o)
	}
	vote := msg(api.MVoted, 1, 0, 1)
	vote.Yes = true
	s, o = Step(s, heard(vote))
	if s.Role != api.Leading || s.Leader != 1 || len(o.Rows) != 1 || len(o.Send) != 2 || o.Send[1].Kind != api.MRows || !reflect.DeepEqual(o.Send[0].Rows, rowsOf(1, 1)) {
		t.Fatal(s, o)
	}
	done := msg(api.MDone, 1, 0, 1)
	done.Yes, done.Index = true, 1
	s, o = Step(s, heard(done))
	if s.Commit != 1 || len(o.Send) != 0 {
		t.Fatal(s, o)
	}
}

// wrong are states that may not be, by what is changed of one that may.
func wrong() []func(*api.State) {
	all := []func(*api.State){
		func(s *api.State) { s.Base.Index = 11 }, func(s *api.State) { s.Base.Index = 9 }, func(s *api.State) { s.Base.Term = 5 },
		func(s *api.State) { s.Base.Roster = of(nil, 1) }, func(s *api.State) { s.Base.Roster = of(some(0, 0)) }, func(s *api.State) { s.Base.Roster = of(some(0), 5) }, func(s *api.State) { s.Base.Roster = of(some(0, 1), 1) },
		func(s *api.State) { s.Base.Data = make([]byte, api.MaxImage+1) }, func(s *api.State) { s.Taken.Data = make([]byte, api.MaxImage+1) },
		func(s *api.State) { s.Rows[1].Index = 11 }, func(s *api.State) { s.Rows[1].Term = 3 }, func(s *api.State) { s.Rows[2].Term = 6 }, func(s *api.State) { s.Rows[3].Term = 6 }, func(s *api.State) { s.Rows[3].Data = make([]byte, api.MaxData+1) },
		func(s *api.State) { s.Hard.Term = 4 }, func(s *api.State) { s.Commit = 9 }, func(s *api.State) { s.Commit = 15 },
		func(s *api.State) { s.Rows, s.Commit, s.Base.Term, s.Peers = nil, 10, 6, [api.MaxNodes]api.Peer{} },
		func(s *api.State) { s.Timeout = 0 }, func(s *api.State) { s.Timeout = math.MinInt },
		func(s *api.State) { s.Votes = some(0, 5) }, func(s *api.State) { s.Votes = some(-1, 0) },
	}
	for _, n := range some(-1, math.MinInt, most+1, math.MaxInt) {
		all = append(all, func(s *api.State) { s.Hard.Term = n }, func(s *api.State) { s.Commit = n }, func(s *api.State) { s.First = n }, func(s *api.State) { s.Round = n }, func(s *api.State) { s.Timer = n }, func(s *api.State) { s.Base.Index = n }, func(s *api.State) { s.Base.Term = n })
	}
	for _, n := range some(-1, 5, math.MinInt, math.MaxInt) {
		all = append(all, func(s *api.State) { s.ID = n })
	}
	for _, n := range some(-1, 6, math.MinInt, math.MaxInt) {
		all = append(all, func(s *api.State) { s.Hard.Vote = n }, func(s *api.State) { s.Leader = n })
	}
	for _, n := range some(-1, 4, math.MinInt, math.MaxInt) {
		all = append(all, func(s *api.State) { s.Role = n })
	}
	for i := range api.MaxNodes {
		for _, n := range some(-1, 16, math.MinInt, math.MaxInt) {
			all = append(all, func(s *api.State) { s.Peers[i].Next = n })
		}
		for _, n := range some(-1, 15, math.MinInt, math.MaxInt) {
			all = append(all, func(s *api.State) { s.Peers[i].Match = n })
		}
		for _, n := range some(-1, 901, math.MinInt, math.MaxInt) {
			all = append(all, func(s *api.State) { s.Peers[i].At = n })
		}
		all = append(all, func(s *api.State) { s.Peers[i].Round = -1 }, func(s *api.State) { s.Peers[i].Round = math.MinInt })
	}
	return all
}

// right are changes of a state by which it is still one that may be.
func right() []func(*api.State) {
	return []func(*api.State){
		func(s *api.State) {}, func(s *api.State) { s.ID = 4 }, func(s *api.State) { s.Hard.Term, s.First, s.Round, s.Timer = most, most, most, most }, func(s *api.State) { s.First, s.Round, s.Timer = 0, 0, 0 },
		func(s *api.State) { s.Hard.Vote, s.Leader = 5, 5 }, func(s *api.State) { s.Hard.Vote, s.Leader = 0, 0 },
		func(s *api.State) { s.Base.Roster = api.Roster{} }, func(s *api.State) { s.Base.Roster = api.Roster{Voters: some(), Learners: some()} }, func(s *api.State) { s.Base.Roster = of(some(4, 0, 3), 2, 1) },
		func(s *api.State) {
			s.Base.Data, s.Peers[2].At = make([]byte, api.MaxImage), api.MaxImage
			s.Taken = api.Base{Index: -4, Term: math.MaxInt, Roster: of(some(9, 9)), Data: make([]byte, api.MaxImage)}
		},
		func(s *api.State) { s.Base.Data, s.Peers[3].At = nil, 0 }, func(s *api.State) { s.Peers[4] = api.Peer{Next: 15, Match: 14, Round: math.MaxInt, At: 900} }, func(s *api.State) { s.Peers = [api.MaxNodes]api.Peer{} },
		func(s *api.State) { s.Commit = 10 }, func(s *api.State) { s.Commit = 14 }, func(s *api.State) { s.Role = api.Follower }, func(s *api.State) { s.Timeout = math.MaxInt }, func(s *api.State) { s.Timeout = 1 },
		func(s *api.State) { s.Votes = some(0, 4, 4, 1, 2, 3, 0) }, func(s *api.State) { s.Looks = []api.Look{{ID: -1, Index: math.MinInt, Round: math.MaxInt}} },
		func(s *api.State) { s.Rows, s.Commit, s.Peers = nil, 10, [api.MaxNodes]api.Peer{{Next: 11, Match: 10}} }, func(s *api.State) { s.Rows[3].Data = make([]byte, api.MaxData) }, func(s *api.State) { s.Rows[0].Data = nil },
		func(s *api.State) {
			s.Base.Index, s.Base.Term, s.Hard.Term, s.Commit, s.Rows = most, most, most, most, nil
			s.Peers[0] = api.Peer{Next: most + 1, Match: most}
		},
	}
}

// P19.1
func TestCheck(t *testing.T) {
	for i, change := range right() {
		s := leader()
		change(&s)
		if e := Check(s); e != api.OK || modelWrong(s) != "" {
			t.Error(i, e, modelWrong(s))
		}
	}
	for i, change := range wrong() {
		s := leader()
		change(&s)
		if e := Check(s); e != api.ErrArg || modelWrong(s) == "" {
			t.Error(i, e)
		}
		for kind := range 9 {
			refuses(t, s, api.Input{Kind: kind, Timeout: 3, ID: 11, Data: opens()}, api.ErrArg)
		}
	}
	if Check(api.State{}) != api.ErrArg || Check(api.State{Timeout: 1}) != api.OK {
		t.Error("the zero state")
	}
}

// P19.1
func TestStart(t *testing.T) {
	b, l := leader().Base, leader().Rows
	s, e := Start(3, api.Hard{Term: 5, Vote: 2}, b, l, 8)
	if want := (api.State{ID: 3, Hard: api.Hard{Term: 5, Vote: 2}, Base: b, Rows: l, Commit: 10, Timeout: 8}); e != api.OK || !alikeStates(s, want) {
		t.Error(s, e)
	}
	for _, n := range some(0, 1, -1, math.MinInt) {
		if s, e := Start(0, api.Hard{}, api.Base{}, nil, n); e != api.OK || !alikeStates(s, api.State{Timeout: 1}) {
			t.Error(n, s, e)
		}
	}
	if s, e := Start(0, api.Hard{}, api.Base{}, nil, math.MaxInt); e != api.OK || s.Timeout != math.MaxInt {
		t.Error(s, e)
	}
	refused := func(id int, h api.Hard, b api.Base, l []api.Entry) {
		t.Helper()
		if s, e := Start(id, h, b, l, 4); e != api.ErrArg || !reflect.DeepEqual(s, api.State{}) {
			t.Error(s, e)
		}
	}
	refused(-1, api.Hard{Term: 5}, b, l)
	refused(5, api.Hard{Term: 5}, b, l)
	refused(0, api.Hard{Term: 4}, b, l)
	refused(0, api.Hard{Term: most + 1}, b, l)
	refused(0, api.Hard{Term: 5, Vote: 6}, b, l)
	refused(0, api.Hard{Term: 5, Vote: -1}, b, l)
	refused(0, api.Hard{Term: 5}, b, l[1:])
	for _, change := range []func(*api.Base){func(b *api.Base) { b.Index = -1 }, func(b *api.Base) { b.Index = most + 1 }, func(b *api.Base) { b.Term = 9 }, func(b *api.Base) { b.Term = -1 }, func(b *api.Base) { b.Roster.Learners = some(0) }, func(b *api.Base) { b.Data = make([]byte, 1<<16+1) }} {
		c := tidyBase(b)
		change(&c)
		refused(0, api.Hard{Term: 5}, c, nil)
	}
}

// batch and piece are messages that have something.
func batch(from, to, term, index, before int, l ...api.Entry) api.Msg {
	m := msg(api.MRows, from, to, term)
	m.Index, m.Before, m.Rows = index, before, l
	return m
}

func piece(from, to, term int, b api.Base, at int, last bool) api.Msg {
	m := msg(api.MPart, from, to, term)
	m.Index, m.Base, m.At, m.Last = b.Index, b, at, last
	return m
}

func baseOf(index, term, n int) api.Base {
	return api.Base{Index: index, Term: term, Roster: of(some(0, 1, 2)), Data: bytesOf(n, index)}
}

// rightMessages may be.
func rightMessages() []api.Msg {
	all := []api.Msg{
		batch(0, 1, 1, 0, 0), batch(0, 1, most, most, most), batch(4, 0, 2, 5, 2, rowsOf(6, 2)...), batch(0, 1, 3, 5, 2, rowsOf(6, 2, 2, 3, 3, 3, 3)...), batch(0, 1, 2, 0, 0, rowsOf(1, 2)...), batch(0, 1, 2, most-1, 2, rowsOf(most, 2)...), batch(0, 1, most, 4, most, rowsOf(5, most)...),
		piece(0, 1, 1, baseOf(1, 0, 0), 0, true), piece(0, 1, 3, baseOf(9, 3, 400), 800, false), piece(1, 0, most, baseOf(most, most, 1), most, true), piece(0, 1, 1, api.Base{Index: 3}, 0, false), piece(0, 1, 1, api.Base{Index: 3, Roster: api.Roster{Voters: some(), Learners: some()}, Data: []byte{}}, 0, false),
	}
	for _, kind := range some(1, 2, 3, 4, 6, 8, 9) {
		m := msg(kind, 3, 4, 1)
		all = append(all, m)
		m.Rows, m.Base = []api.Entry{}, api.Base{Roster: api.Roster{Voters: some(), Learners: some()}, Data: []byte{}}
		all = append(all, m)
		m.Term, m.Index, m.Before, m.Commit, m.Round, m.At, m.Yes, m.Last = most, most, most, most, most, most, true, true
		all = append(all, m)
	}
	return all
}

// wrongMessages may not be.
func wrongMessages() []api.Msg {
	long := rowsOf(6, 2)
	long[0].Data = make([]byte, api.MaxData+1)
	all := []api.Msg{
		{}, batch(0, 1, 1, 1, 2), batch(0, 1, 1, 5, 1, rowsOf(6, 2)...), batch(0, 1, 3, 5, 2, rowsOf(6, 1)...), batch(0, 1, 3, 5, 2, rowsOf(6, 2, 2, 2, 2, 2, 2, 2)...), batch(0, 1, 3, 5, 2, rowsOf(7, 2)...), batch(0, 1, 3, 5, 2, rowsOf(5, 2)...), batch(0, 1, 3, 5, 2, rowsOf(6, 3, 2)...), batch(0, 1, 3, 5, 0, rowsOf(6, 0)...), batch(0, 1, 3, 5, 2, long...), batch(0, 1, most, most, 2, rowsOf(most+1, 2)...), batch(0, 1, 3, 5, 2, rowsOf(6, 2, 4)...),
		piece(0, 1, 1, baseOf(0, 0, 4), 0, false), piece(0, 1, 1, baseOf(1, 2, 4), 0, false), piece(0, 1, 1, baseOf(1, 1, 401), 0, false), piece(0, 1, 1, baseOf(1, -1, 1), 0, false), piece(0, 1, 1, api.Base{Index: 1, Roster: of(nil, 1)}, 0, false), piece(0, 1, 1, api.Base{Index: 1, Roster: of(some(5))}, 0, false), piece(0, 1, 1, baseOf(most+1, 1, 0), 0, false), piece(0, 1, 1, baseOf(-1, 1, 0), 0, false),
	}
	other := piece(0, 1, 1, baseOf(4, 1, 3), 0, false)
	other.Index = 3
	with := batch(0, 1, 1, 3, 1)
	with.Base.Data = []byte{0}
	rows := piece(0, 1, 1, baseOf(4, 1, 3), 0, false)
	rows.Rows = rowsOf(5, 1)
	all = append(all, other, with, rows)
	for _, base := range []api.Base{{Index: 1}, {Term: 1}, {Roster: of(some(0))}, {Roster: of(nil, 0)}, {Data: []byte{0}}} {
		m := batch(0, 1, 1, 3, 1)
		m.Base = base
		all = append(all, m)
	}
	for _, kind := range some(1, 2, 3, 4, 6, 8, 9) {
		for _, change := range []func(*api.Msg){func(m *api.Msg) { m.Rows = rowsOf(1, 1) }, func(m *api.Msg) { m.Base.Index = 1 }, func(m *api.Msg) { m.Base.Term = 1 }, func(m *api.Msg) { m.Base.Roster = of(some(0)) }, func(m *api.Msg) { m.Base.Roster = of(nil, 0) }, func(m *api.Msg) { m.Base.Data = []byte{0} }} {
			m := msg(kind, 0, 1, 1)
			change(&m)
			all = append(all, m)
		}
	}
	for _, m := range rightMessages() {
		for _, change := range wrongNumbers() {
			w := m
			change(&w)
			all = append(all, w)
		}
	}
	return all
}

// wrongNumbers are changes, each of which makes a message wrong.
func wrongNumbers() []func(*api.Msg) {
	all := []func(*api.Msg){func(m *api.Msg) { m.From = m.To }, func(m *api.Msg) { m.Term = 0 }}
	for _, n := range some(-1, most+1, math.MinInt, math.MaxInt) {
		all = append(all, func(m *api.Msg) { m.Term = n }, func(m *api.Msg) { m.Index = n }, func(m *api.Msg) { m.Before = n }, func(m *api.Msg) { m.Commit = n }, func(m *api.Msg) { m.Round = n }, func(m *api.Msg) { m.At = n })
	}
	for _, n := range some(-1, 5, math.MinInt, math.MaxInt) {
		all = append(all, func(m *api.Msg) { m.From = n }, func(m *api.Msg) { m.To = n })
	}
	for _, n := range some(0, -1, 10, math.MinInt, math.MaxInt) {
		all = append(all, func(m *api.Msg) { m.Kind = n })
	}
	return all
}

// P19.2
func TestRight(t *testing.T) {
	for i, m := range rightMessages() {
		if e := Right(m); e != api.OK || !modelRight(m) {
			t.Error(i, m, e)
		}
	}
	for i, m := range wrongMessages() {
		if e := Right(m); e != api.ErrMsg || modelRight(m) {
			t.Error(i, m, e)
		}
		s := follower()
		if m.To >= 0 && m.To < api.MaxNodes {
			s.ID = m.To
		}
		refuses(t, s, heard(m), api.ErrMsg)
	}
}

// P19.3: a message to another node, and what is no input.
func TestNotToDo(t *testing.T) {
	for i, m := range rightMessages() {
		s := follower()
		s.ID = (m.To + 1 + i%4) % 5
		refuses(t, s, heard(m), api.ErrMsg)
	}
	for _, s := range []api.State{leader(), follower()} {
		for _, kind := range some(0, -1, 8, math.MinInt, math.MaxInt) {
			refuses(t, s, api.Input{Kind: kind, Data: opens(), ID: 11, Node: 1, Timeout: 3}, api.ErrArg)
		}
	}
}

// P19.3: the other fields of an input say nothing.
func TestOtherFields(t *testing.T) {
	all := api.Input{Timeout: 5, Msg: piece(2, 0, 6, baseOf(20, 6, 3), 0, true), Data: opens(), Roster: of(some(0, 1, 2, 3)), ID: 12, Node: 1}
	keep := map[int]api.Input{
		api.ITick: {Timeout: 5}, api.IMsg: {Msg: all.Msg}, api.IWrite: {Data: all.Data}, api.IRoster: {Roster: all.Roster}, api.IRead: {ID: 12}, api.IPack: {ID: 12, Data: all.Data}, api.IHand: {Node: 1},
	}
	for kind, in := range keep {
		in.Kind, all.Kind = kind, kind
		for _, s := range []api.State{leader(), follower()} {
			s1, o1 := Step(s, in)
			s2, o2 := Step(s, all)
			if !alikeStates(s1, s2) || !alikeOutputs(o1, o2) {
				t.Error(kind, s1, o1, s2, o2)
			}
		}
	}
}

// Memory: a step's state and output share nothing with what it was given, nor with one another.
func TestMemory(t *testing.T) {
	for i, c := range memoryCases() {
		s, in := c.s, c.in
		was, asked := tidy(s), bytes.Clone(in.Data)
		m := in.Msg
		m.Base, m.Rows = tidyBase(m.Base), tidyRows(m.Rows)
		s1, o1 := Step(s, in)
		s2, o2 := tidy(s1), tidyOutput(o1)
		if !alikeStates(s, was) || !bytes.Equal(in.Data, asked) || !reflect.DeepEqual(tidyBase(in.Msg.Base), m.Base) || !reflect.DeepEqual(tidyRows(in.Msg.Rows), m.Rows) {
			t.Error(i, "what was handed in is changed")
		}
		scrawlOutput(&o1)
		if !alikeStates(s1, s2) || !alikeStates(s, was) {
			t.Error(i, "the output shares memory with a state")
		}
		scrawlState(&s)
		scrawlInput(&in)
		if !alikeStates(s1, s2) {
			t.Error(i, "the state shares memory with what was handed in")
		}
		_, o3 := Step(c.again(), c.inAgain())
		if !alikeOutputs(o3, o2) {
			t.Error(i, "another answer")
		}
		scrawlState(&s1)
		in = c.inAgain()
		s = c.again()
		s1, o1 = Step(s, in)
		scrawlState(&s)
		scrawlInput(&in)
		scrawlState(&s1)
		if !alikeOutputs(o1, o2) {
			t.Error(i, "the output shares memory with a state, or with what was handed in")
		}
		listsApart(t, s1, o1)
	}
}

type memoryCase struct {
	again   func() api.State
	inAgain func() api.Input
	s       api.State
	in      api.Input
}

func memoryCases() []memoryCase {
	var all []memoryCase
	add := func(s func() api.State, in func() api.Input) {
		all = append(all, memoryCase{s, in, s(), in()})
	}
	taking := func() api.State {
		s := follower()
		s.Taken = api.Base{Index: 20, Term: 5, Roster: of(some(0, 1), 2), Data: bytesOf(30, 3)}
		return s
	}
	behind := func() api.State {
		s := leader()
		s.Rows = append(s.Rows, api.Entry{Index: 15, Term: 5, Data: change(of(some(0, 1), 2))})
		s.Commit = 15
		return s
	}
	standing := func() api.State {
		s := follower()
		s.Role, s.Votes, s.Hard.Vote = api.Standing, append(make([]int, 0, 9), 1), 2
		return s
	}
	for _, s := range []func() api.State{leader, follower, taking, behind, standing} {
		add(s, func() api.Input { return tick(4) })
		add(s, func() api.Input { return api.Input{Kind: api.IWrite, Data: opens()} })
		add(s, func() api.Input { return api.Input{Kind: api.IRoster, Roster: of(some(0, 1, 2, 3))} })
		add(s, func() api.Input { return api.Input{Kind: api.IRead, ID: 4} })
		add(s, func() api.Input { return api.Input{Kind: api.IPack, ID: 12, Data: bytesOf(50, 5)} })
		add(s, func() api.Input { return api.Input{Kind: api.IPack, ID: 15, Data: bytesOf(50, 5)} })
		add(s, func() api.Input { return api.Input{} })
		add(s, func() api.Input { return heard(batch(0, 1, 5, 12, 4, rowsOf(13, 5, 5, 5)...)) })
		add(s, func() api.Input { return heard(batch(2, s().ID, 6, 12, 4, rowsOf(13, 6, 6, 6)...)) })
		for _, last := range []bool{false, true} {
			add(s, func() api.Input { return heard(piece(2, s().ID, 6, baseOf(20, 5, 40), 0, last)) })
			add(s, func() api.Input { return heard(piece(2, s().ID, 6, baseOf(20, 5, 40), 30, last)) })
			add(s, func() api.Input { return heard(piece(2, s().ID, 6, baseOf(14, 5, 40), 0, last)) })
		}
		add(s, func() api.Input {
			m := msg(api.MVoted, 2, s().ID, 5)
			m.Yes = true
			return heard(m)
		})
		add(s, func() api.Input { return heard(msg(api.MDone, 3, s().ID, 5)) })
	}
	return all
}

func scrawlInts(l []int) {
	for i := range l[:cap(l)] {
		l[:cap(l)][i] = 77
	}
}

func scrawlBytes(l []byte) {
	for i := range l[:cap(l)] {
		l[:cap(l)][i] ^= 0x5a
	}
}

func scrawlBase(b *api.Base) {
	scrawlInts(b.Roster.Voters)
	scrawlInts(b.Roster.Learners)
	scrawlBytes(b.Data)
}

func scrawlRows(l []api.Entry) {
	for i, e := range l[:cap(l)] {
		scrawlBytes(e.Data)
		l[:cap(l)][i] = api.Entry{Index: 77}
	}
}

func scrawlLooks(l []api.Look) {
	for i := range l[:cap(l)] {
		l[:cap(l)][i] = api.Look{ID: 77}
	}
}

func scrawlState(s *api.State) {
	scrawlBase(&s.Base)
	scrawlBase(&s.Taken)
	scrawlRows(s.Rows)
	scrawlInts(s.Votes)
	scrawlLooks(s.Looks)
}

func scrawlInput(in *api.Input) {
	scrawlBytes(in.Data)
	scrawlInts(in.Roster.Voters)
	scrawlInts(in.Roster.Learners)
	scrawlRows(in.Msg.Rows)
	scrawlBase(&in.Msg.Base)
}

func scrawlOutput(o *api.Output) {
	scrawlRows(o.Rows)
	scrawlLooks(o.Reads)
	for i := range o.Send[:cap(o.Send)] {
		m := &o.Send[:cap(o.Send)][i]
		scrawlRows(m.Rows)
		scrawlBase(&m.Base)
		*m = api.Msg{Kind: 77}
	}
}

// listsApart fails if two lists of a state and an output share memory.
func listsApart(t *testing.T, s api.State, o api.Output) {
	t.Helper()
	seen := map[uintptr]string{}
	var walk func(v reflect.Value, name string)
	walk = func(v reflect.Value, name string) {
		switch v.Kind() {
		case reflect.Slice:
			full := v.Slice3(0, v.Cap(), v.Cap())
			for i := range full.Len() {
				p := full.Index(i).Addr().Pointer()
				if was, ok := seen[p]; ok && v.Type().Elem().Size() > 0 {
					t.Error(name, "shares memory with", was)
					return
				}
				seen[p] = name
			}
			if v.Type().Elem().Kind() == reflect.Struct {
				for i := range v.Len() {
					for f := range v.Index(i).NumField() {
						walk(v.Index(i).Field(f), name+"."+v.Type().Elem().Field(f).Name)
					}
				}
			}
		case reflect.Struct:
			for f := range v.NumField() {
				walk(v.Field(f), name+"."+v.Type().Field(f).Name)
			}
		}
	}
	walk(reflect.ValueOf(s), "state")
	walk(reflect.ValueOf(o), "output")
}

// Memory: Start's state, too.
func TestStartMemory(t *testing.T) {
	b, l := leader().Base, leader().Rows
	s, _ := Start(0, api.Hard{Term: 5}, b, l, 3)
	was := tidy(s)
	scrawlBase(&b)
	scrawlRows(l)
	if !alikeStates(s, was) {
		t.Error("it shares memory with what was handed in")
	}
	s, e := Start(0, api.Hard{Term: 5}, leader().Base, slices.Grow(leader().Rows, 9), 3)
	if e != api.OK || !alikeStates(s, was) {
		t.Error(s, e)
	}
}
