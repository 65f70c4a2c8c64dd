package raft

import (
	"tidemark/api"
	"tidemark/rows"
)

// hear does a message that is right.
func (t *step) hear(m api.Msg) {
	switch {
	case m.Kind == api.MAsk:
		t.grant(m)
		return
	case m.Kind == api.MGrant && m.Yes:
		t.granted(m)
		return
	case m.Term < t.Hard.Term:
		t.late(m)
		return
	case m.Term > t.Hard.Term:
		t.follow(m.Term)
	}
	switch m.Kind {
	case api.MVote:
		t.vote(m)
	case api.MVoted:
		if m.Yes && t.Role == api.Standing {
			t.voted(m.From)
		}
	case api.MNow:
		t.now()
	case api.MRows, api.MPart:
		t.heed(m)
	case api.MDone, api.MGot:
		t.told(m)
	}
}

func (t *step) fresh(m api.Msg) bool { return rows.Fresh(t.log(), m.Index, m.Before) }

func (t *step) grant(m api.Msg) {
	switch {
	case m.Term > t.Hard.Term && t.fresh(m):
		t.send(m.From, api.Msg{Kind: api.MGrant, Term: m.Term, Yes: true})
	case t.Hard.Term != 0:
		t.send(m.From, api.Msg{Kind: api.MGrant})
	}
}

func (t *step) granted(m api.Msg) {
	if t.Role == api.Asking && m.Term == t.Hard.Term+1 {
		t.voted(m.From)
	}
}

// late tells whoever is of a lesser term, and waits for an answer, which term there is.
func (t *step) late(m api.Msg) {
	switch m.Kind {
	case api.MVote:
		t.send(m.From, api.Msg{Kind: api.MVoted})
	case api.MRows, api.MPart:
		t.send(m.From, api.Msg{Kind: api.MDone})
	}
}

func (t *step) vote(m api.Msg) {
	yes := (t.Hard.Vote == 0 || t.Hard.Vote == m.From+1) && t.fresh(m)
	if yes {
		t.keep(api.Hard{Term: t.Hard.Term, Vote: m.From + 1})
		t.Role, t.Votes, t.Timer = api.Follower, nil, 0
	}
	t.send(m.From, api.Msg{Kind: api.MVoted, Yes: yes})
}

func (t *step) now() {
	if !t.leads() && t.votes() {
		t.Timer = 0
		t.stand()
	}
}

// heed takes what comes of whoever leads; a leader takes nothing.
func (t *step) heed(m api.Msg) {
	if t.leads() {
		return
	}
	t.follow(m.Term)
	t.Leader, t.Timer = m.From+1, 0
	if m.Kind == api.MRows {
		t.take(m)
		return
	}
	t.takePiece(m)
}

func (t *step) take(m api.Msg) {
	l, cut, more, ok := rows.Join(t.log(), m.Index, m.Before, m.Rows...)
	if !ok || cut > 0 && cut <= t.Commit {
		t.send(m.From, api.Msg{Kind: api.MDone, Index: rows.Hint(t.log(), m.Index), Round: m.Round})
		return
	}
	t.Rows, t.out.Cut, t.out.Rows = l.Rows, cut, more
	match := m.Index + len(m.Rows)
	t.Commit = max(t.Commit, min(m.Commit, match))
	t.send(m.From, api.Msg{Kind: api.MDone, Yes: true, Index: match, Round: m.Round})
}

func (t *step) takePiece(m api.Msg) {
	got := api.Msg{Kind: api.MGot, Index: m.Index, Round: m.Round}
	switch {
	case m.Base.Index <= t.Commit:
		got.Last = true
	case t.came(m) && m.Last:
		b := t.Taken
		t.Taken = api.Base{}
		t.rebase(b)
		t.Commit = b.Index
		got.Last = true
	case t.ofTaken(m.Base):
		got.At = len(t.Taken.Data)
	}
	t.send(m.From, got)
}

// ofTaken tells whether a piece is of the base that comes.
func (t *step) ofTaken(b api.Base) bool { return t.Taken.Index == b.Index && t.Taken.Term == b.Term }

// came tells whether a piece has found its place behind those that came ahead of it.
func (t *step) came(m api.Msg) bool {
	switch {
	case m.At == 0:
		t.Taken = ownBase(m.Base)
	case t.ofTaken(m.Base) && m.At == len(t.Taken.Data):
		t.Taken.Data = append(t.Taken.Data, m.Base.Data...)
	default:
		return false
	}
	if len(t.Taken.Data) > api.MaxImage {
		t.Taken = api.Base{}
		return false
	}
	return true
}

// told hears what a node says that it has; only a leader wants to know.
func (t *step) told(m api.Msg) {
	if !t.leads() {
		return
	}
	sure := m.Kind == api.MGot || m.Yes
	if sure && m.Index > t.end() {
		return
	}
	p := &t.Peers[m.From]
	p.Round = max(p.Round, min(m.Round, t.Round))
	switch {
	case !sure:
		p.Next = max(min(m.Index, p.Next-1), p.Match+1)
		t.agree()
		t.feed(m.From)
	case m.Kind == api.MDone || m.Last:
		t.has(m.From, m.Index)
	case m.Index == t.Base.Index && m.At <= len(t.Base.Data):
		t.gotPiece(m.From, m.At)
	}
}

// has notes that a node has reached an index.
func (t *step) has(n, index int) {
	p := &t.Peers[n]
	rose := index > p.Match
	p.Match = max(p.Match, index)
	p.Next = max(p.Next, p.Match+1)
	t.agree()
	if rose && p.Next <= t.end() {
		t.feed(n)
	}
}

func (t *step) gotPiece(n, at int) {
	rose := at > t.Peers[n].At
	t.Peers[n].At = at
	t.agree()
	if rose {
		t.feed(n)
	}
}
