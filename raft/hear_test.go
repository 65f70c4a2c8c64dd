package raft

import (
	"math"
	"testing"

	"tidemark/api"
)

func yes(m api.Msg) api.Msg {
	m.Yes = true
	return m
}

// follows is what a state becomes by a greater term, but for what it heeds.
func follows(s *api.State, o *api.Output, term int) {
	if s.Role == api.Leading {
		s.Timer, s.Peers = 0, [api.MaxNodes]api.Peer{}
	}
	s.Hard, o.Hard = api.Hard{Term: term}, true
	s.Role, s.Leader, s.Votes, s.Looks = api.Follower, 0, nil, nil
}

// roles are a leader, and the others of its term, all with the same log.
func roles() []api.State {
	all := []api.State{leader()}
	for _, role := range some(api.Follower, api.Asking, api.Standing) {
		s := follower()
		s.Role, s.Votes, s.Looks = role, some(1), leader().Looks
		all = append(all, s)
	}
	return all
}

// P19.4: MAsk
func TestAsked(t *testing.T) {
	for _, s := range roles() {
		asks := func(term, index, before int, want ...api.Msg) {
			t.Helper()
			does(t, s, heard(voteOf(api.MAsk, 2, s.ID, term, index, before)), func(_ *api.State, o *api.Output) { o.Send = want })
		}
		no := msg(api.MGrant, s.ID, 2, s.Hard.Term)
		for _, term := range some(6, 7, most) {
			grant := yes(msg(api.MGrant, s.ID, 2, term))
			asks(term, 14, 5, grant)
			asks(term, 15, 5, grant)
			asks(term, 0, 6, grant)
			asks(term, most, most, grant)
			asks(term, 13, 5, no)
			asks(term, 99, 4, no)
			asks(term, 0, 0, no)
		}
		asks(5, 14, 5, no)
		asks(4, 14, 5, no)
		asks(1, 99, 99, no)
	}
	s := api.State{Timeout: 1}
	does(t, s, heard(voteOf(api.MAsk, 2, 0, 1, 0, 0)), func(s *api.State, o *api.Output) {
		o.Send = []api.Msg{yes(msg(api.MGrant, 0, 2, 1))}
	})
	s.Hard.Term = most
	does(t, s, heard(voteOf(api.MAsk, 2, 0, most, 9, 9)), func(s *api.State, o *api.Output) {
		o.Send = []api.Msg{msg(api.MGrant, 0, 2, most)}
	})
	s.Hard.Term, s.Base.Index, s.Commit = 0, 3, 3 // of the term 0 nothing may be sent
	does(t, s, heard(voteOf(api.MAsk, 2, 0, 1, 2, 0)), nothing)
}

// five is a follower of five that vote.
func five(role int, votes ...int) api.State {
	s := follower()
	s.Base.Roster, s.Role, s.Votes = of(some(0, 1, 2, 3, 4)), role, votes
	return s
}

// P19.4: MGrant
func TestGranted(t *testing.T) {
	grant := func(s api.State, from, term int, want func(*api.State, *api.Output)) {
		t.Helper()
		does(t, s, heard(yes(msg(api.MGrant, from, 1, term))), want)
	}
	grant(five(api.Asking, 1), 3, 6, func(s *api.State, o *api.Output) { s.Votes = some(1, 3) })
	grant(five(api.Asking, 1, 3), 3, 6, nothing)
	grant(five(api.Asking, 1, 3, 4), 3, 6, nothing)
	for _, term := range some(1, 4, 5, 7, 8, most) {
		grant(five(api.Asking, 1, 3), 4, term, nothing)
	}
	for _, role := range some(api.Follower, api.Standing, api.Leading) {
		grant(five(role, 1, 3), 4, 6, nothing)
		grant(five(role, 1, 3), 4, 7, nothing)
	}
	stands := func(s *api.State, o *api.Output) {
		s.Hard, o.Hard = api.Hard{Term: 6, Vote: 2}, true
		s.Role, s.Leader, s.Votes = api.Standing, 0, some(1)
		for _, n := range some(0, 2, 3, 4) {
			o.Send = append(o.Send, voteOf(api.MVote, 1, n, 6, 14, 5))
		}
	}
	grant(five(api.Asking, 1, 3), 4, 6, stands)
	learner := five(api.Asking, 1, 3)
	learner.Base.Roster = of(some(0, 1, 2), 3, 4)
	grant(learner, 4, 6, func(s *api.State, o *api.Output) { s.Votes = some(1, 3, 4) })
	last := five(api.Asking, 1, 3)
	last.Hard.Term = most - 1
	grant(last, 0, most, func(s *api.State, o *api.Output) {
		stands(s, o)
		s.Hard.Term = most
		for i := range o.Send {
			o.Send[i].Term = most
		}
	})
}

// P19.4: MGrant without Yes is as all others: it tells a term.
func TestNotGranted(t *testing.T) {
	for _, s := range roles() {
		for _, kind := range some(api.MGrant, api.MVoted, api.MDone, api.MGot) {
			for _, term := range some(1, 4) {
				does(t, s, heard(msg(kind, 2, s.ID, term)), nothing)
			}
			for _, term := range some(6, 9, most) {
				does(t, s, heard(msg(kind, 2, s.ID, term)), func(s *api.State, o *api.Output) { follows(s, o, term) })
			}
		}
		does(t, s, heard(msg(api.MGrant, 2, s.ID, 5)), nothing)
		does(t, s, heard(msg(api.MVoted, 2, s.ID, 5)), nothing)
	}
}

// P19.4: what is late is told of the term, and nothing else.
func TestLate(t *testing.T) {
	for _, s := range roles() {
		done := func(_ *api.State, o *api.Output) { o.Send = []api.Msg{msg(api.MDone, s.ID, 2, 5)} }
		m := batch(2, s.ID, 4, 14, 4, rowsOf(15, 4)...)
		m.Round, m.Commit = 3, 15
		does(t, s, heard(m), done)
		m = piece(2, s.ID, 4, baseOf(30, 4, 9), 0, true)
		m.Round = 4
		does(t, s, heard(m), done)
		does(t, s, heard(voteOf(api.MVote, 2, s.ID, 4, 99, 4)), func(_ *api.State, o *api.Output) {
			o.Send = []api.Msg{msg(api.MVoted, s.ID, 2, 5)}
		})
		does(t, s, heard(yes(msg(api.MVoted, 2, s.ID, 4))), nothing)
		does(t, s, heard(yes(msg(api.MDone, 2, s.ID, 4))), nothing)
		does(t, s, heard(msg(api.MNow, 2, s.ID, 4)), nothing)
	}
}

// P19.4: MVote
func TestVote(t *testing.T) {
	for _, s := range roles() {
		votes := func(term, index, before int, way bool) {
			t.Helper()
			does(t, s, heard(voteOf(api.MVote, 2, s.ID, term, index, before)), func(s *api.State, o *api.Output) {
				if term > 5 {
					follows(s, o, term)
				}
				answer := msg(api.MVoted, s.ID, 2, s.Hard.Term)
				if way {
					s.Role, s.Votes, s.Timer = api.Follower, nil, 0
					o.Hard, s.Hard.Vote = s.Hard.Vote != 3 || term > 5, 3
					answer.Yes = true
				}
				o.Send = []api.Msg{answer}
			})
		}
		for _, term := range some(6, 8, most) {
			votes(term, 14, 5, true)
			votes(term, 20, 5, true)
			votes(term, 0, 6, true)
			votes(term, 13, 5, false)
			votes(term, 20, 4, false)
			votes(term, 0, 0, false)
		}
		votes(5, 14, 5, s.Hard.Vote == 0)
		votes(5, 13, 5, false)
		for _, vote := range some(0, 3) {
			s.Hard.Vote = vote
			votes(5, 14, 5, true)
			votes(5, 13, 5, false)
		}
		for _, vote := range some(1, 2, 4, 5) {
			s.Hard.Vote = vote
			votes(5, 14, 5, false)
			votes(5, 99, 9, false)
			votes(6, 14, 5, true)
		}
	}
}

// P19.4: MVoted
func TestVoted(t *testing.T) {
	voted := func(s api.State, from, term int, want func(*api.State, *api.Output)) {
		t.Helper()
		s.Hard.Vote = 2
		does(t, s, heard(yes(msg(api.MVoted, from, 1, term))), want)
	}
	voted(five(api.Standing, 1), 3, 5, func(s *api.State, o *api.Output) { s.Votes = some(1, 3) })
	voted(five(api.Standing, 1, 3), 3, 5, nothing)
	for _, role := range some(api.Follower, api.Asking, api.Leading) {
		voted(five(role, 1, 3), 4, 5, nothing)
	}
	wins := func(s *api.State, o *api.Output) {
		s.Role, s.Leader, s.Votes, s.Looks, s.Timer, s.First, s.Round = api.Leading, 2, nil, nil, 0, 15, 0
		o.Rows = rowsOf(15, 5)
		s.Rows = append(s.Rows, o.Rows...)
		for n := range s.Peers {
			s.Peers[n] = api.Peer{Next: 15}
		}
		for _, n := range some(0, 2, 3, 4) {
			m := batch(1, n, 5, 14, 5, o.Rows...)
			m.Commit = 12
			o.Send = append(o.Send, m)
		}
	}
	voted(five(api.Standing, 1, 3), 4, 5, wins)
	voted(five(api.Standing, 1, 3), 4, 6, func(s *api.State, o *api.Output) { follows(s, o, 6) })
	s := five(api.Standing, 1, 3)
	s.Looks, s.First, s.Round, s.Peers[3] = leader().Looks, 3, 7, api.Peer{Next: 2, Match: 1, Round: 7, At: 1}
	voted(s, 4, 5, wins)
	full := five(api.Standing, 1, 3)
	full.Base.Index, full.Rows, full.Commit, full.Base.Term = most, nil, most, 5
	full.Peers[3], full.Looks, full.Leader = api.Peer{Next: 4}, leader().Looks, 3
	voted(full, 4, 5, func(s *api.State, o *api.Output) { s.Role, s.Votes, s.Looks = api.Follower, nil, nil })
}

// heeded is a state behind what it heeds of node 2.
func heeded(s *api.State, o *api.Output, term int) {
	if term > s.Hard.Term {
		follows(s, o, term)
	}
	s.Role, s.Votes, s.Looks, s.Leader, s.Timer = api.Follower, nil, nil, 3, 0
}

// P19.4: MRows
func TestRows(t *testing.T) {
	for _, s := range roles() {
		for _, term := range some(5, 6) {
			took := func(m api.Msg, cut int, l []api.Entry, fresh []api.Entry, commit, match int) {
				t.Helper()
				m.Round = 77
				does(t, s, heard(m), func(s *api.State, o *api.Output) {
					if s.Role == api.Leading && term == 5 {
						return
					}
					heeded(s, o, term)
					s.Rows, s.Commit, o.Cut, o.Rows = l, max(s.Commit, commit), cut, fresh
					a := yes(msg(api.MDone, s.ID, 2, term))
					a.Index, a.Round = match, 77
					o.Send = []api.Msg{a}
				})
			}
			rows := func(commit, index, before int, l ...api.Entry) api.Msg {
				m := batch(2, s.ID, term, index, before, l...)
				m.Commit = commit
				return m
			}
			old := s.Rows
			took(rows(0, 14, 5), 0, old, nil, 0, 14)
			took(rows(14, 14, 5), 0, old, nil, 14, 14)
			took(rows(99, 14, 5), 0, old, nil, 14, 14)
			took(rows(99, 13, 5), 0, old, nil, 13, 13)
			took(rows(99, 13, 5, rowsOf(14, 5)...), 0, old, nil, 14, 14)
			took(rows(99, 4, 2), 0, old, nil, 0, 4)
			took(rows(99, 9, 2, rowsOf(10, 3, 4, 4)...), 0, old, nil, 12, 12)
			took(rows(15, 14, 5, rowsOf(15, 5, 5)...), 0, append(rowsOf(11, 4, 4, 5, 5), rowsOf(15, 5, 5)...), rowsOf(15, 5, 5), 15, 16)
			took(rows(16, 13, 5, rowsOf(14, 5, 5, 5)...), 0, append(rowsOf(11, 4, 4, 5, 5), rowsOf(15, 5, 5)...), rowsOf(15, 5, 5), 16, 16)
			took(rows(17, 14, 5, rowsOf(15, 5, 5)...), 0, append(rowsOf(11, 4, 4, 5, 5), rowsOf(15, 5, 5)...), rowsOf(15, 5, 5), 16, 16)
			if term == 6 && s.Commit < 14 {
				took(rows(0, 13, 5, rowsOf(14, 6, 6)...), 14, rowsOf(11, 4, 4, 5, 6, 6), rowsOf(14, 6, 6), 0, 15)
				took(rows(15, 12, 4, rowsOf(13, 5, 6)...), 14, rowsOf(11, 4, 4, 5, 6), rowsOf(14, 6), 14, 14)
			}
		}
	}
}

// P19.4: MRows that do not join, or would cut what was committed
func TestRowsThatDoNotJoin(t *testing.T) {
	for _, s := range roles() {
		for _, term := range some(5, 6) {
			not := func(index, before, hint int, l ...api.Entry) {
				t.Helper()
				m := batch(2, s.ID, term, index, before, l...)
				m.Round, m.Commit = 9, 99
				does(t, s, heard(m), func(s *api.State, o *api.Output) {
					if s.Role == api.Leading && term == 5 {
						return
					}
					heeded(s, o, term)
					a := msg(api.MDone, s.ID, 2, term)
					a.Index, a.Round = hint, 9
					o.Send = []api.Msg{a}
				})
			}
			not(15, 5, 15)
			not(99, 5, 15, rowsOf(100, 5)...)
			not(most, 5, 15)
			not(14, 4, 13)
			not(13, 4, 13, rowsOf(14, 5)...)
			not(12, 3, 11, rowsOf(13, 5)...)
			not(10, 4, 11, rowsOf(11, 4)...)
			not(11, 4, 11, rowsOf(12, 5)...)
			not(10, 3, 11, rowsOf(11, 3, 5, 5, 5, 5)...)
			not(9, 1, 11, rowsOf(10, 1, 1)...)
			if s.Commit == 13 {
				not(12, 4, 11, rowsOf(13, 4)...)
			}
		}
	}
}

// full is a follower that ends at the last index.
func full() api.State {
	s := follower()
	s.Base.Index, s.Rows, s.Commit = most-4, rowsOf(most-3, 4, 4, 5, 5), most-2
	return s
}

// P19.4, P19.9: the hint of an MDone may be one above 2^40.
func TestRowsAtTheEnd(t *testing.T) {
	does(t, full(), heard(batch(2, 1, 5, most, 5)), func(s *api.State, o *api.Output) {
		heeded(s, o, 5)
		a := yes(msg(api.MDone, 1, 2, 5))
		a.Index = most
		o.Send = []api.Msg{a}
	})
	s := full()
	s.Base.Index, s.Base.Term, s.Rows, s.Commit = most, 5, nil, most
	does(t, s, heard(batch(2, 1, 6, most, 4)), func(s *api.State, o *api.Output) {
		heeded(s, o, 6)
		a := msg(api.MDone, 1, 2, 6)
		a.Index = most + 1
		o.Send = []api.Msg{a}
	})
}

// P19.4: MDone
func TestDone(t *testing.T) {
	done := func(way bool, from, index, round int, want func(*api.State, *api.Output)) {
		t.Helper()
		m := msg(api.MDone, from, 0, 5)
		m.Yes, m.Index, m.Round = way, index, round
		does(t, leader(), heard(m), want)
	}
	done(true, 1, 13, 5, nothing)
	done(true, 1, 15, 7, nothing)
	done(true, 1, most, 7, nothing)
	done(true, 1, 0, 4, nothing)
	done(true, 1, 14, 5, func(s *api.State, o *api.Output) {
		s.Peers[1].Match, s.Peers[1].Next, s.Commit = 14, 15, 14
	})
	done(true, 1, 13, 6, func(s *api.State, o *api.Output) {
		s.Peers[1].Round = 6
		o.Reads, s.Looks = s.Looks[:1], s.Looks[1:]
	})
	for _, round := range some(7, 8, most) {
		done(true, 2, 4, round, func(s *api.State, o *api.Output) {
			s.Peers[2].Round = 7
			o.Reads, s.Looks = s.Looks, nil
		})
	}
	done(true, 3, 10, 9, func(s *api.State, o *api.Output) { // it learns: nobody agrees by it
		s.Peers[3] = api.Peer{Next: 11, Match: 10, Round: 7, At: 400}
		m := batch(0, 3, 5, 10, 3, rowsOf(11, 4, 4, 5, 5)...)
		m.Commit, m.Round = 13, 7
		o.Send = []api.Msg{m}
	})
	done(true, 2, 13, 0, func(s *api.State, o *api.Output) {
		s.Peers[2].Match, s.Peers[2].Next = 13, 14
		m := batch(0, 2, 5, 13, 5, rowsOf(14, 5)...)
		m.Commit, m.Round = 13, 7
		o.Send = []api.Msg{m}
	})
	done(true, 4, 1, 3, func(s *api.State, o *api.Output) { // it is not of the roster
		s.Peers[4] = api.Peer{Next: 13, Match: 1, Round: 3}
		m := batch(0, 4, 5, 12, 4, rowsOf(13, 5, 5)...)
		m.Commit, m.Round = 13, 7
		o.Send = []api.Msg{m}
	})
}

// P19.4: MDone without Yes
func TestNotDone(t *testing.T) {
	not := func(p api.Peer, index, round, next int) {
		t.Helper()
		s := leader()
		s.Peers[2] = p
		m := msg(api.MDone, 2, 0, 5)
		m.Index, m.Round = index, round
		does(t, s, heard(m), func(s *api.State, o *api.Output) {
			s.Peers[2].Next, s.Peers[2].Round = next, max(p.Round, min(round, 7))
			reads := min(2, max(0, s.Peers[2].Round-5))
			if reads > 0 {
				o.Reads, s.Looks = s.Looks[:reads], s.Looks[reads:]
			}
			s.Commit = max(s.Commit, p.Match) // it agrees first, then it feeds
			answer := piece(0, 2, 5, s.Base, p.At, true)
			if next > 10 {
				answer = batch(0, 2, 5, next-1, map[int]int{11: 3, 12: 4, 13: 4, 14: 5, 15: 5}[next], s.Rows[next-11:]...)
				answer.Commit = s.Commit
			} else {
				answer.Base.Data = s.Base.Data[p.At:min(p.At+400, 900)]
				answer.Last = p.At >= 500
			}
			answer.Round = 7
			o.Send = []api.Msg{answer}
		})
	}
	not(api.Peer{Next: 14, Match: 11}, 15, 0, 13)
	not(api.Peer{Next: 14, Match: 11}, 13, 4, 13)
	not(api.Peer{Next: 14, Match: 11}, 12, 4, 12)
	not(api.Peer{Next: 14, Match: 11}, 11, 6, 12)
	not(api.Peer{Next: 14, Match: 11}, 0, 7, 12)
	not(api.Peer{Next: 12, Match: 11}, 20, 9, 12)
	not(api.Peer{Next: 12, Match: 11, Round: math.MaxInt}, 20, 9, 12)
	not(api.Peer{Next: 15, Match: 13}, 1, 9, 14)
	not(api.Peer{Next: 15, Match: 14}, 1, 9, 15)
	not(api.Peer{Next: 0, Match: 0}, 5, 0, 1)
	not(api.Peer{Next: 15, Match: 3, At: 500}, 4, 0, 4)
	not(api.Peer{Next: 15, Match: 3, At: 499}, 1, 0, 4)
	not(api.Peer{Next: 15, Match: 3, At: 900}, 10, 0, 10)
	not(api.Peer{Next: 15, Match: 3, At: 900}, most, 0, 14)
}

// P19.4: only a leader wants to know what others have.
func TestDoneAtOthers(t *testing.T) {
	for _, s := range roles()[1:] {
		for _, kind := range some(api.MDone, api.MGot) {
			for _, way := range []bool{false, true} {
				m := msg(kind, 2, 1, 5)
				m.Yes, m.Last, m.Index, m.Round = way, way, 14, 7
				does(t, s, heard(m), nothing)
			}
		}
	}
}

// P19.4: MPart of a base that is behind
func TestPartBehind(t *testing.T) {
	for _, s := range roles() {
		for _, last := range []bool{true, false} {
			for _, index := range some(1, s.Commit-1, s.Commit) {
				m := piece(2, s.ID, 6, baseOf(index, 5, 3), 0, last)
				m.Round = 21
				s.Taken = baseOf(index, 5, 7)
				does(t, s, heard(m), func(s *api.State, o *api.Output) {
					heeded(s, o, 6)
					a := msg(api.MGot, s.ID, 2, 6)
					a.Index, a.Round, a.Last = index, 21, true
					o.Send = []api.Msg{a}
				})
			}
		}
	}
	does(t, leader(), heard(piece(2, 0, 5, baseOf(30, 5, 3), 0, true)), nothing)
}

// P19.4: MPart
func TestPart(t *testing.T) {
	for _, s := range roles()[1:] {
		got := func(taken api.Base, m api.Msg, behind api.Base, at int) {
			t.Helper()
			s.Taken, m.Round = taken, 8
			does(t, s, heard(m), func(s *api.State, o *api.Output) {
				heeded(s, o, 5)
				s.Taken = behind
				a := msg(api.MGot, 1, 2, 5)
				a.Index, a.At, a.Round = m.Index, at, 8
				o.Send = []api.Msg{a}
			})
		}
		part := func(b api.Base, at int, last bool) api.Msg { return piece(2, 1, 5, b, at, last) }
		first, other := baseOf(20, 4, 300), baseOf(21, 4, 100)
		both := first
		both.Data = append(bytesOf(300, 20), bytesOf(100, 21)...)
		next := first
		next.Data, next.Roster = bytesOf(100, 21), of(some(3))
		newer := first
		newer.Term = 5
		got(api.Base{}, part(first, 0, false), first, 300)
		got(other, part(first, 0, false), first, 300)
		got(first, part(first, 0, false), first, 300)
		got(first, part(next, 300, false), both, 400)
		got(first, part(next, 299, false), first, 300)
		got(first, part(next, 301, true), first, 300)
		got(first, part(first, 100, true), first, 300)
		got(first, part(newer, 300, true), first, 0)
		got(first, part(other, 300, true), first, 0)
		got(api.Base{}, part(first, 300, true), api.Base{}, 0)
		got(api.Base{}, part(first, most, true), api.Base{}, 0)
		long := first
		long.Data = bytesOf(api.MaxImage-100, 3)
		longer := long
		longer.Data = append(bytesOf(api.MaxImage-100, 3), next.Data...)
		got(long, part(next, api.MaxImage-100, false), longer, api.MaxImage)
		more := next
		more.Data = bytesOf(101, 9)
		got(long, part(more, api.MaxImage-100, false), api.Base{}, 0)
		got(long, part(more, api.MaxImage-100, true), api.Base{}, 0)
	}
}

// P19.4: the last MPart
func TestLastPart(t *testing.T) {
	for _, s := range roles() {
		based := func(taken api.Base, m api.Msg, b api.Base, rows ...api.Entry) {
			t.Helper()
			s.Taken, m.Round = taken, 8
			s.Peers[4] = api.Peer{Next: 1, At: 9}
			does(t, s, heard(m), func(s *api.State, o *api.Output) {
				heeded(s, o, 6)
				s.Base, s.Rows, s.Commit, s.Taken, o.Based = b, rows, b.Index, api.Base{}, true
				for n := range s.Peers {
					s.Peers[n].At = 0
				}
				a := msg(api.MGot, s.ID, 2, 6)
				a.Index, a.Last, a.Round = m.Index, true, 8
				o.Send = []api.Msg{a}
			})
		}
		part := func(b api.Base, at int) api.Msg { return piece(2, s.ID, 6, b, at, true) }
		based(api.Base{}, part(baseOf(20, 5, 9), 0), baseOf(20, 5, 9))
		based(baseOf(20, 5, 8), part(baseOf(20, 5, 9), 0), baseOf(20, 5, 9))
		based(api.Base{}, part(baseOf(14, 5, 0), 0), baseOf(14, 5, 0))
		based(api.Base{}, part(baseOf(14, 4, 0), 0), baseOf(14, 4, 0))
		s.Rows = append(s.Rows, rowsOf(15, 5, 5)...)
		based(api.Base{}, part(baseOf(14, 5, 9), 0), baseOf(14, 5, 9), rowsOf(15, 5, 5)...)
		based(api.Base{}, part(baseOf(14, 4, 9), 0), baseOf(14, 4, 9))
		whole := baseOf(15, 5, 200)
		whole.Data = append(whole.Data, bytesOf(50, 1)...)
		rest := api.Base{Index: 15, Term: 5, Data: bytesOf(50, 1)}
		based(baseOf(15, 5, 200), part(rest, 200), whole, rowsOf(16, 5)...)
	}
}

// P19.4: MGot
func TestGot(t *testing.T) {
	got := func(from, index, at, round int, last bool, want func(*api.State, *api.Output)) {
		t.Helper()
		m := msg(api.MGot, from, 0, 5)
		m.Index, m.At, m.Round, m.Last = index, at, round, last
		for _, way := range []bool{false, true} {
			m.Yes = way // it says nothing here
			does(t, leader(), heard(m), want)
		}
	}
	rest := func(at int, last bool) api.Msg {
		b := leader().Base
		b.Data = b.Data[at:min(at+400, 900)]
		m := piece(0, 3, 5, b, at, last)
		m.Round = 7
		return m
	}
	got(3, 10, 400, 0, false, nothing)
	for _, at := range some(401, 499) {
		got(3, 10, at, 0, false, func(s *api.State, o *api.Output) {
			s.Peers[3].At, o.Send = at, []api.Msg{rest(at, false)}
		})
	}
	for _, at := range some(500, 800, 900) {
		got(3, 10, at, 3, false, func(s *api.State, o *api.Output) {
			s.Peers[3].At, s.Peers[3].Round, o.Send = at, 3, []api.Msg{rest(at, true)}
		})
	}
	for _, at := range some(0, 100, 399) {
		got(3, 10, at, 0, false, func(s *api.State, o *api.Output) { s.Peers[3].At = at })
	}
	for _, at := range some(901, most) {
		got(3, 10, at, 2, false, func(s *api.State, o *api.Output) { s.Peers[3].Round = 2 })
	}
	for _, index := range some(0, 9, 11, 14) {
		got(3, index, 500, 4, false, func(s *api.State, o *api.Output) { s.Peers[3].Round = 4 })
	}
	for _, index := range some(15, most) {
		got(3, index, 500, 4, false, nothing)
		got(3, index, 500, 4, true, nothing)
	}
	got(3, 10, 77, 9, true, func(s *api.State, o *api.Output) {
		s.Peers[3] = api.Peer{Next: 11, Match: 10, Round: 7, At: 400}
		m := batch(0, 3, 5, 10, 3, rowsOf(11, 4, 4, 5, 5)...)
		m.Commit, m.Round = 13, 7
		o.Send = []api.Msg{m}
	})
	got(3, 14, 0, 0, true, func(s *api.State, o *api.Output) {
		s.Peers[3] = api.Peer{Next: 15, Match: 14, Round: 1, At: 400}
	})
	got(1, 14, 0, 7, true, func(s *api.State, o *api.Output) {
		s.Peers[1], s.Commit = api.Peer{Next: 15, Match: 14, Round: 7}, 14
		o.Reads, s.Looks = s.Looks, nil
	})
	got(2, 10, 5, 6, false, func(s *api.State, o *api.Output) { // it agrees, too, and tells by a message of its own
		s.Peers[2].At, s.Peers[2].Round = 5, 6
		o.Reads, s.Looks = s.Looks[:1], s.Looks[1:]
		m := batch(0, 2, 5, 11, 4, rowsOf(12, 4, 5, 5)...)
		m.Commit, m.Round = 13, 7
		o.Send = []api.Msg{m}
	})
	got(2, 11, 5, 7, false, func(s *api.State, o *api.Output) { s.Peers[2].Round = 7 }) // of another base: nothing is agreed by it
}

// P19.4: MNow
func TestNow(t *testing.T) {
	now := func(s api.State, term int, want func(*api.State, *api.Output)) {
		t.Helper()
		does(t, s, heard(msg(api.MNow, 2, s.ID, term)), want)
	}
	stands := func(term int) func(s *api.State, o *api.Output) {
		return func(s *api.State, o *api.Output) {
			s.Looks = map[bool][]api.Look{true: s.Looks}[term == 6]
			s.Timer, s.Hard, o.Hard = 0, api.Hard{Term: term, Vote: s.ID + 1}, true
			s.Role, s.Leader, s.Votes = api.Standing, 0, some(s.ID)
			for _, n := range some(0, 1, 2) {
				if n != s.ID {
					o.Send = append(o.Send, voteOf(api.MVote, s.ID, n, term, 14, 5))
				}
			}
		}
	}
	for _, s := range roles()[1:] {
		now(s, 5, stands(6))
		now(s, 7, stands(8))
	}
	now(leader(), 5, nothing)
	now(leader(), 6, func(s *api.State, o *api.Output) {
		s.Peers = [api.MaxNodes]api.Peer{}
		stands(7)(s, o)
	})
	for _, id := range some(3, 4) {
		s := follower()
		s.ID = id
		now(s, 5, nothing)
		now(s, 6, func(s *api.State, o *api.Output) { follows(s, o, 6) })
	}
	s := follower()
	now(s, most, func(s *api.State, o *api.Output) {
		follows(s, o, most)
		s.Timer = 0
	})
	s.Hard.Term, s.Hard.Vote = most, 4
	now(s, most, func(s *api.State, o *api.Output) { s.Timer = 0 })
}

// P19.4: an entry of a former term is agreed on only by one of this term behind it.
func TestAgreed(t *testing.T) {
	s := leader()
	s.First, s.Commit, s.Rows = 14, 10, rowsOf(11, 4, 4, 4, 5)
	m := yes(msg(api.MDone, 1, 0, 5))
	m.Index = 13
	s.Peers[1] = api.Peer{Next: 14, Match: 12, Round: 5}
	does(t, s, heard(m), func(s *api.State, o *api.Output) {
		s.Peers[1].Match = 13
		f := batch(0, 1, 5, 13, 4, rowsOf(14, 5)...)
		f.Commit, f.Round = 10, 7
		o.Send = []api.Msg{f}
	})
	m.Index = 14
	does(t, s, heard(m), func(s *api.State, o *api.Output) {
		s.Peers[1].Match, s.Peers[1].Next, s.Commit = 14, 15, 14
	})
}

// P19.4: looks are told in order, each once.
func TestLooks(t *testing.T) {
	s := leader()
	s.Looks = []api.Look{{ID: 9, Round: 7}, {ID: 8, Round: 3}, {ID: 7, Round: 6}, {ID: 6, Round: 0}, {ID: 5, Round: 8}, {ID: 4, Round: -3}}
	m := yes(msg(api.MDone, 1, 0, 5))
	m.Round = 6
	does(t, s, heard(m), func(s *api.State, o *api.Output) {
		s.Peers[1].Round = 6
		o.Reads = []api.Look{{ID: 8, Round: 3}, {ID: 7, Round: 6}, {ID: 6, Round: 0}, {ID: 4, Round: -3}}
		s.Looks = []api.Look{{ID: 9, Round: 7}, {ID: 5, Round: 8}}
	})
}
