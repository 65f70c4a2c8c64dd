package raft

import (
	"math"
	"testing"

	"tidemark/api"
)

// told is what leader() tells, with more entries behind its own ones.
func told(commit, round int, more ...api.Entry) []api.Msg {
	first := batch(0, 1, 5, 13, 5, append(rowsOf(14, 5), more...)...)
	second := batch(0, 2, 5, 11, 4, append(rowsOf(12, 4, 5, 5), more...)...)
	first.Commit, second.Commit = commit, commit
	base := leader().Base
	base.Data = base.Data[400:800]
	third := piece(0, 3, 5, base, 400, false)
	all := []api.Msg{first, second, third}
	for i := range all {
		all[i].Round = round
	}
	return all
}

// voteOf is a message that asks for a vote, of a log that ends so.
func voteOf(kind, from, to, term, index, before int) api.Msg {
	m := msg(kind, from, to, term)
	m.Index, m.Before = index, before
	return m
}

// P19.3
func TestTickOfLeader(t *testing.T) {
	does(t, leader(), tick(1), func(s *api.State, o *api.Output) {
		s.Timer, o.Send = 3, told(13, 7)
	})
	late := leader()
	late.Timer, late.Timeout = most, 1
	does(t, late, tick(1), func(s *api.State, o *api.Output) { o.Send = told(13, 7) })
	other := leader()
	other.ID = 3 // it learns, and leads all the same
	does(t, other, tick(1), func(s *api.State, o *api.Output) {
		s.Timer = 3
		o.Send = told(13, 7)
		first := batch(3, 0, 5, 12, 4, rowsOf(13, 5, 5)...)
		first.Commit, first.Round = 13, 7
		o.Send[2] = o.Send[1]
		o.Send[1] = o.Send[0]
		o.Send[0] = first
		o.Send[1].From, o.Send[2].From = 3, 3
	})
}

// P19.3: what a node is fed.
func TestFeed(t *testing.T) {
	fed := func(next, at int, m api.Msg) {
		t.Helper()
		s := leader()
		s.Base.Roster = of(some(0), 2)
		s.Rows = append(s.Rows, rowsOf(15, 5, 5, 5)...)
		s.Peers[2] = api.Peer{Next: next, At: at}
		m.Round = 7
		if m.Kind == api.MRows {
			m.Commit = 13
		}
		does(t, s, tick(1), func(s *api.State, o *api.Output) {
			s.Timer, o.Send = 3, []api.Msg{m}
		})
	}
	part := func(from, to int, last bool) api.Msg {
		b := leader().Base
		b.Roster, b.Data = of(some(0), 2), b.Data[from:to]
		return piece(0, 2, 5, b, from, last)
	}
	fed(0, 0, part(0, 400, false))
	fed(10, 0, part(0, 400, false))
	fed(10, 499, part(499, 899, false))
	fed(10, 500, part(500, 900, true))
	fed(10, 501, part(501, 900, true))
	fed(3, 900, part(900, 900, true))
	fed(11, 900, batch(0, 2, 5, 10, 3, rowsOf(11, 4, 4, 5, 5, 5, 5)...))
	fed(12, 0, batch(0, 2, 5, 11, 4, rowsOf(12, 4, 5, 5, 5, 5, 5)...))
	fed(13, 0, batch(0, 2, 5, 12, 4, rowsOf(13, 5, 5, 5, 5, 5)...))
	fed(17, 0, batch(0, 2, 5, 16, 5, rowsOf(17, 5)...))
	fed(18, 0, batch(0, 2, 5, 17, 5))
}

// P19.3
func TestTickOfOthers(t *testing.T) {
	for _, role := range some(api.Follower, api.Asking, api.Standing) {
		s := follower()
		s.Role, s.Votes, s.Timer = role, some(1), 4
		does(t, s, tick(2), func(s *api.State, o *api.Output) { s.Timer = 5 })
		for _, timer := range some(5, 6, most-1, most) {
			s.Timer = timer
			does(t, s, tick(2), func(s *api.State, o *api.Output) {
				s.Timer, s.Timeout, s.Role, s.Leader, s.Votes = 0, 2, api.Asking, 0, some(1)
				o.Send = []api.Msg{voteOf(api.MAsk, 1, 0, 6, 14, 5), voteOf(api.MAsk, 1, 2, 6, 14, 5)}
			})
		}
		s.Timeout = math.MaxInt
		does(t, s, tick(2), nothing)
	}
}

// P19.3: whoever learns, is not of the roster, or is at the end of the terms, asks nobody.
func TestAskNobody(t *testing.T) {
	for _, id := range some(3, 4) {
		s := follower()
		s.ID, s.Timer = id, 9
		for _, timeout := range some(1, 0, -1, math.MinInt) {
			does(t, s, tick(timeout), func(s *api.State, o *api.Output) { s.Timer, s.Timeout = 0, 1 })
		}
		does(t, s, tick(math.MaxInt), func(s *api.State, o *api.Output) { s.Timer, s.Timeout = 0, math.MaxInt })
	}
	s := follower()
	s.Timer, s.Hard.Term = 9, most
	does(t, s, tick(3), func(s *api.State, o *api.Output) { s.Timer, s.Timeout = 0, 3 })
	s.Hard.Term, s.Base.Roster = most-1, api.Roster{}
	does(t, s, tick(3), func(s *api.State, o *api.Output) { s.Timer, s.Timeout = 0, 3 })
	s.Base.Roster = of(some(1, 2))
	does(t, s, tick(3), func(s *api.State, o *api.Output) {
		s.Timer, s.Timeout, s.Role, s.Leader, s.Votes = 0, 3, api.Asking, 0, some(1)
		o.Send = []api.Msg{voteOf(api.MAsk, 1, 2, most, 14, 5)}
	})
}

// alone is a follower that votes alone; nodes 0 and 4 learn.
func alone() api.State {
	s := follower()
	s.Base.Roster, s.Timer = of(some(1), 4, 0), 5
	return s
}

// P19.3: a majority of one: it asks, stands, leads and agrees in one step.
func TestAlone(t *testing.T) {
	wins := func(s *api.State, o *api.Output) {
		s.Timer, s.Timeout = 0, 3
		s.Hard, o.Hard = api.Hard{Term: 6, Vote: 2}, true
		s.Role, s.Leader, s.Votes, s.Looks, s.First, s.Round, s.Commit = api.Leading, 2, nil, nil, 15, 0, 15
		o.Rows = rowsOf(15, 6)
		s.Rows = append(s.Rows, o.Rows...)
		for n := range s.Peers {
			s.Peers[n] = api.Peer{Next: 15}
		}
		for _, n := range some(0, 4) {
			m := batch(1, n, 6, 14, 5, o.Rows...)
			m.Commit = 12
			o.Send = append(o.Send, m)
		}
	}
	does(t, alone(), tick(3), wins)
	full := alone()
	full.Base.Index, full.Rows, full.Commit, full.Base.Term = most, nil, most, 5
	does(t, full, tick(3), func(s *api.State, o *api.Output) {
		s.Timer, s.Timeout, s.Leader = 0, 3, 0
		s.Hard, o.Hard = api.Hard{Term: 6, Vote: 2}, true
	})
	looks := alone()
	looks.Looks, looks.Round, looks.First = leader().Looks, 9, 3
	looks.Peers[2] = api.Peer{Next: 3, Match: 2, Round: 7, At: 9}
	does(t, looks, tick(3), wins)
}

// P19.3
func TestWrite(t *testing.T) {
	data := put(api.Command{Kind: api.CWrite, Session: 1, Seq: 2, Ops: []api.Op{{Key: "a", Has: true, Value: "1"}}})
	more := api.Entry{Index: 15, Term: 5, Data: data}
	does(t, leader(), api.Input{Kind: api.IWrite, Data: data}, func(s *api.State, o *api.Output) {
		o.Rows, o.Index, o.Send = []api.Entry{more}, 15, told(13, 7, more)
		s.Rows = append(s.Rows, more)
	})
	s := leader()
	s.Base.Roster = of(some(0), 1)
	does(t, s, api.Input{Kind: api.IWrite, Data: data}, func(s *api.State, o *api.Output) {
		o.Rows, o.Index, o.Send = []api.Entry{more}, 15, told(13, 7, more)[:1]
		s.Rows, s.Commit = append(s.Rows, more), 15
		o.Reads, s.Looks = s.Looks, nil
	})
}

// P19.3
func TestWriteRefused(t *testing.T) {
	write := func(s api.State, data []byte, e api.Errno) {
		t.Helper()
		refuses(t, s, api.Input{Kind: api.IWrite, Data: data}, e)
	}
	for _, s := range []api.State{leader(), follower()} {
		write(s, nil, api.ErrCommand)
		write(s, make([]byte, api.MaxData+1), api.ErrCommand)
		write(s, []byte{99}, api.ErrCommand)
		write(s, append(opens(), 0), api.ErrCommand)
		write(s, put(api.Command{}), api.ErrCommand)
		write(s, change(of(some(0, 1))), api.ErrCommand)
		write(s, change(of(nil)), api.ErrCommand)
	}
	for _, role := range some(api.Follower, api.Asking, api.Standing) {
		s := follower()
		s.Role = role
		write(s, opens(), api.ErrLeader)
	}
	full := leader()
	full.Base.Index, full.Rows, full.Commit, full.Peers, full.Base.Term = most, nil, most, [api.MaxNodes]api.Peer{}, 5
	write(full, opens(), api.ErrFull)
	new := leader()
	new.Base, new.Rows, new.Commit, new.Peers, new.Hard.Term = api.Base{Roster: of(some(0))}, nil, 0, [api.MaxNodes]api.Peer{}, 0
	write(new, opens(), api.ErrFull)
	ahead := leader()
	ahead.Rows, ahead.Base.Index, ahead.Commit, ahead.Hard.Term, ahead.Base.Term = nil, most-1, most-1, most, most
	ahead.Base.Roster = of(some(0))
	does(t, ahead, api.Input{Kind: api.IWrite, Data: opens()}, func(s *api.State, o *api.Output) {
		o.Rows, o.Index = []api.Entry{{Index: most, Term: most, Data: opens()}}, most
		s.Rows, s.Commit = o.Rows, most
		o.Reads, s.Looks = s.Looks, nil
	})
}

// P19.3
func TestRosterChange(t *testing.T) {
	for _, next := range []api.Roster{of(some(0, 1, 2, 3)), of(some(0, 1, 2)), of(some(2, 0), 3, 1), of(some(1, 0), 3), of(some(2, 1, 0), 4, 3)} {
		more := api.Entry{Index: 15, Term: 5, Data: change(next)}
		s, o := Step(leader(), api.Input{Kind: api.IRoster, Roster: next})
		s2, o2 := modelStep(leader(), api.Input{Kind: api.IRoster, Roster: next})
		if !alikeStates(s, s2) || !alikeOutputs(o, o2) {
			t.Error(next, s, o, s2, o2)
		}
		if o.Err != api.OK || o.Index != 15 || len(o.Rows) != 1 || !alikeOutputs(api.Output{Rows: o.Rows}, api.Output{Rows: []api.Entry{more}}) || len(o.Send) != len(next.Voters)+len(next.Learners)-1 {
			t.Error(next, o)
		}
	}
	next := of(some(0, 1, 2), 3, 4)
	more := api.Entry{Index: 15, Term: 5, Data: change(next)}
	does(t, leader(), api.Input{Kind: api.IRoster, Roster: next}, func(s *api.State, o *api.Output) {
		last := batch(0, 4, 5, 12, 4, append(rowsOf(13, 5, 5), more)...)
		last.Commit, last.Round = 13, 7
		o.Rows, o.Index, o.Send = []api.Entry{more}, 15, append(told(13, 7, more), last)
		s.Rows = append(s.Rows, more)
	})
}

// P19.3: a roster counts from its row on, whether it is committed or not.
func TestRosterOfRow(t *testing.T) {
	s := leader()
	s.Rows[1].Data, s.Rows[2].Data = change(of(some(0, 3))), change(of(nil, 1))
	does(t, s, tick(1), func(s *api.State, o *api.Output) {
		s.Timer, o.Send = 3, told(13, 7)[2:]
	})
	s.Rows[3].Data = change(of(some(0), 1))
	does(t, s, tick(1), func(s *api.State, o *api.Output) {
		s.Timer, o.Send = 3, told(13, 7)[:1]
		o.Send[0].Rows[0].Data = change(of(some(0), 1))
	})
	refuses(t, s, api.Input{Kind: api.IRoster, Roster: of(some(0))}, api.ErrBusy)
	s.Commit = 14
	more := api.Entry{Index: 15, Term: 5, Data: change(of(some(0)))}
	does(t, s, api.Input{Kind: api.IRoster, Roster: of(some(0))}, func(s *api.State, o *api.Output) {
		o.Rows, o.Index = []api.Entry{more}, 15
		s.Rows, s.Commit = append(s.Rows, more), 15
		o.Reads, s.Looks = s.Looks, nil
	})
	s.Rows[3].Data = change(of(some(0, 0))) // it may not be, so that the one ahead of it counts
	s.Commit = 13
	does(t, s, tick(1), func(s *api.State, o *api.Output) {
		s.Timer, o.Send = 3, told(13, 7)[2:]
	})
}

// P19.3
func TestRosterRefused(t *testing.T) {
	roster := func(s api.State, r api.Roster, e api.Errno) {
		t.Helper()
		refuses(t, s, api.Input{Kind: api.IRoster, Roster: r}, e)
	}
	good := of(some(0, 1, 2))
	for _, role := range some(api.Follower, api.Asking, api.Standing) {
		s := leader()
		s.Role, s.Commit = role, 12
		roster(s, good, api.ErrLeader)
		roster(s, api.Roster{}, api.ErrLeader)
	}
	s := leader()
	s.Commit = 12
	roster(s, api.Roster{}, api.ErrBusy)
	s = leader()
	s.Rows[3].Data = change(of(some(0, 1, 2), 3))
	roster(s, api.Roster{}, api.ErrBusy)
	for _, r := range []api.Roster{{}, of(nil, 0), of(some(0, 0, 1)), of(some(0, 1, 2), 5), of(some(0, 1, 2), -1), of(some(0, 1), 1), of(make([]int, 9000))} {
		roster(leader(), r, api.ErrRoster)
	}
	for _, r := range []api.Roster{of(some(0, 1, 2), 3), of(some(2, 1, 0), 3), of(some(0)), of(some(0, 1, 2, 4), 3), of(some(0, 1, 3), 2), of(some(1, 2), 3), of(some(1, 2), 3, 0), of(some(3, 4))} {
		roster(leader(), r, api.ErrChange)
	}
	s = leader()
	s.Base.Roster = api.Roster{}
	roster(s, good, api.ErrRoster)
	s = leader()
	s.Base.Index, s.Rows, s.Commit, s.Peers, s.Base.Term = most, nil, most, [api.MaxNodes]api.Peer{}, 5
	roster(s, good, api.ErrFull)
	roster(s, of(some(0)), api.ErrChange)
	s = leader()
	s.ID = 3 // it learns: it may make itself vote
	roster(s, good, api.ErrChange)
	if _, o := Step(s, api.Input{Kind: api.IRoster, Roster: of(some(0, 1, 2, 3))}); o.Err != api.OK {
		t.Error(o)
	}
}

// P19.3
func TestRead(t *testing.T) {
	does(t, leader(), api.Input{Kind: api.IRead, ID: 99}, func(s *api.State, o *api.Output) {
		s.Round, o.Send = 8, told(13, 8)
		s.Looks = append(s.Looks, api.Look{ID: 99, Index: 13, Round: 8})
	})
	s := leader()
	s.Base.Roster = of(some(0), 3)
	does(t, s, api.Input{Kind: api.IRead, ID: math.MinInt}, func(s *api.State, o *api.Output) {
		s.Round, o.Send, s.Commit = 8, told(13, 8)[2:], 14
		o.Send[0].Base.Roster = s.Base.Roster
		o.Reads, s.Looks = append(s.Looks, api.Look{ID: math.MinInt, Index: 13, Round: 8}), nil
	})
	s = leader()
	s.Round = most - 1
	does(t, s, api.Input{Kind: api.IRead}, func(s *api.State, o *api.Output) {
		s.Round, o.Send = most, told(13, most)
		s.Looks = append(s.Looks, api.Look{Index: 13, Round: most})
	})
	s.Round = most
	refuses(t, s, api.Input{Kind: api.IRead}, api.ErrBusy)
	s = leader()
	s.Commit = 12
	refuses(t, s, api.Input{Kind: api.IRead}, api.ErrBusy)
	for _, role := range some(api.Follower, api.Asking, api.Standing) {
		s.Role = role
		refuses(t, s, api.Input{Kind: api.IRead}, api.ErrLeader)
	}
}

// P19.3: the entry that began the term must be committed, no more.
func TestReadOfFirst(t *testing.T) {
	s := leader()
	s.First = 14
	refuses(t, s, api.Input{Kind: api.IRead}, api.ErrBusy)
	refuses(t, s, api.Input{Kind: api.IRoster, Roster: of(some(0, 1, 2))}, api.ErrBusy)
	s.First = 0
	if _, o := Step(s, api.Input{Kind: api.IRead}); o.Err != api.OK {
		t.Error(o)
	}
}

// P19.3
func TestPack(t *testing.T) {
	data := bytesOf(33, 2)
	for _, s := range []api.State{leader(), follower()} {
		s.Rows[1].Data, s.Rows[3].Data = change(of(some(0, 1, 2), 4)), change(of(some(0, 1)))
		rosters := map[int]api.Roster{11: of(some(0, 1, 2), 3), 12: of(some(0, 1, 2), 4), 13: of(some(0, 1, 2), 4)}
		for i := 11; i <= s.Commit; i++ {
			does(t, s, api.Input{Kind: api.IPack, ID: i, Data: data}, func(s *api.State, o *api.Output) {
				s.Base = api.Base{Index: i, Term: s.Rows[i-11].Term, Roster: rosters[i], Data: data}
				s.Rows = s.Rows[i-10:]
				s.Peers[3].At, o.Based = 0, true
			})
		}
		for _, i := range []int{s.Commit + 1, 14, 15, 10, 9, 0, -1, math.MinInt, math.MaxInt} {
			refuses(t, s, api.Input{Kind: api.IPack, ID: i, Data: data}, api.ErrRows)
			refuses(t, s, api.Input{Kind: api.IPack, ID: i, Data: make([]byte, 1<<16+1)}, api.ErrRows)
		}
		refuses(t, s, api.Input{Kind: api.IPack, ID: 12, Data: make([]byte, 1<<16+1)}, api.ErrLong)
		if _, o := Step(s, api.Input{Kind: api.IPack, ID: 12, Data: make([]byte, 1<<16)}); o.Err != api.OK {
			t.Error(o.Err)
		}
	}
	all := leader()
	all.Commit = 14
	does(t, all, api.Input{Kind: api.IPack, ID: 14}, func(s *api.State, o *api.Output) {
		s.Base = api.Base{Index: 14, Term: 5, Roster: s.Base.Roster}
		s.Rows, s.Peers[3].At, o.Based = nil, 0, true
	})
}

// P19.3
func TestHand(t *testing.T) {
	s := leader()
	s.Peers[2].Match = 14
	does(t, s, api.Input{Kind: api.IHand, Node: 2}, func(s *api.State, o *api.Output) {
		o.Send = []api.Msg{msg(api.MNow, 0, 2, 5)}
	})
	refuses(t, s, api.Input{Kind: api.IHand, Node: 1}, api.ErrBusy)
	s.Peers[0].Match, s.Peers[3].Match, s.Peers[4].Match = 14, 14, 14
	for _, n := range some(0, 3, 4, 5, -1, math.MinInt, math.MaxInt) {
		refuses(t, s, api.Input{Kind: api.IHand, Node: n}, api.ErrRoster)
	}
	for _, role := range some(api.Follower, api.Asking, api.Standing) {
		s.Role = role
		refuses(t, s, api.Input{Kind: api.IHand, Node: 2}, api.ErrLeader)
		refuses(t, s, api.Input{Kind: api.IHand, Node: 9}, api.ErrLeader)
	}
}
