package raft

import (
	"tidemark/api"
	"tidemark/quorum"
	"tidemark/rows"
)

// inRange tells whether all of some numbers may be indices, terms or the like.
func inRange(l ...int) bool {
	for _, n := range l {
		if n < 0 || n > api.MaxIndex {
			return false
		}
	}
	return true
}

func node(n int) bool { return n >= 0 && n < api.MaxNodes }

// nodeOrNone tells whether a number is a node and 1, or 0.
func nodeOrNone(n int) bool { return n == 0 || node(n-1) }

func nobody(r api.Roster) bool { return len(r.Voters) == 0 && len(r.Learners) == 0 }

func baseMayBe(b api.Base) bool {
	return inRange(b.Index, b.Term) && len(b.Data) <= api.MaxImage && (nobody(b.Roster) || quorum.Check(b.Roster) == api.OK)
}

func logMayBe(s api.State) bool {
	if !baseMayBe(s.Base) || rows.Check(logOf(s)) != api.OK {
		return false
	}
	end, term := lastOf(s)
	return term <= s.Hard.Term && s.Commit >= s.Base.Index && s.Commit <= end
}

func numbersMayBe(s api.State) bool {
	return node(s.ID) && nodeOrNone(s.Hard.Vote) && nodeOrNone(s.Leader) &&
		s.Role >= api.Follower && s.Role <= api.Leading && s.Timeout >= 1 &&
		inRange(s.Hard.Term, s.Commit, s.First, s.Round, s.Timer)
}

func votesMayBe(l []int) bool {
	for _, n := range l {
		if !node(n) {
			return false
		}
	}
	return true
}

func peersMayBe(s api.State) bool {
	end, _ := lastOf(s)
	for _, p := range s.Peers {
		if p.Next < 0 || p.Next > end+1 || p.Match < 0 || p.Match > end || p.At < 0 || p.At > len(s.Base.Data) || p.Round < 0 {
			return false
		}
	}
	return true
}

// Check tells whether a state may be.
func Check(s api.State) api.Errno {
	if !numbersMayBe(s) || !logMayBe(s) || len(s.Taken.Data) > api.MaxImage || !votesMayBe(s.Votes) || !peersMayBe(s) {
		return api.ErrArg
	}
	return api.OK
}

func empty(b api.Base) bool {
	return b.Index == 0 && b.Term == 0 && nobody(b.Roster) && len(b.Data) == 0
}

// Right tells whether a message may be.
func Right(m api.Msg) api.Errno {
	if !node(m.From) || !node(m.To) || m.From == m.To || m.Term == 0 {
		return api.ErrMsg
	}
	if !inRange(m.Term, m.Index, m.Before, m.Commit, m.Round, m.At) || !filled(m) {
		return api.ErrMsg
	}
	return api.OK
}

// filled tells whether a message has what its kind has, and nothing else.
func filled(m api.Msg) bool {
	switch m.Kind {
	case api.MRows:
		return empty(m.Base) && batchMayBe(m)
	case api.MPart:
		return len(m.Rows) == 0 && pieceMayBe(m)
	case api.MAsk, api.MGrant, api.MVote, api.MVoted, api.MDone, api.MGot, api.MNow:
		return empty(m.Base) && len(m.Rows) == 0
	}
	return false
}

func batchMayBe(m api.Msg) bool {
	l := api.Log{Index: m.Index, Term: m.Before, Rows: m.Rows}
	if len(m.Rows) > api.MaxBatch || rows.Check(l) != api.OK {
		return false
	}
	_, term := rows.Last(l)
	return term <= m.Term
}

func pieceMayBe(m api.Msg) bool {
	b := m.Base
	return b.Index != 0 && b.Index == m.Index && baseMayBe(b) && b.Term <= m.Term && len(b.Data) <= api.MaxPart
}
