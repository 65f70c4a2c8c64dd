package raft

import (
	"bytes"
	"reflect"
	"slices"

	"tidemark/api"
	"tidemark/machine"
)

const most = api.MaxIndex

// The model goes by the chapter's words, over logs as maps by index, and asks none of the layers below but what a command's bytes mean.

func between(n, from, to int) bool { return from <= n && n <= to }

// modelRoster tells whether a roster may be.
func modelRoster(r api.Roster) bool {
	seen := map[int]int{}
	for _, n := range slices.Concat(r.Voters, r.Learners) {
		if seen[n]++; seen[n] > 1 || !between(n, 0, 4) {
			return false
		}
	}
	return len(r.Voters) > 0
}

func modelBase(b api.Base) bool {
	none := len(b.Roster.Voters)+len(b.Roster.Learners) == 0
	return between(b.Index, 0, most) && between(b.Term, 0, most) && (none || modelRoster(b.Roster)) && len(b.Data) <= 65536
}

func modelLog(index, term int, l []api.Entry) bool {
	ok := between(index, 0, most) && between(term, 0, most)
	for i, e := range l {
		ok = ok && e.Index == index+1+i && between(e.Index, 1, most) && between(e.Term, max(term, 1), most) && len(e.Data) <= 8192
		term = e.Term
	}
	return ok
}

// modelEnd is where a log ends.
func modelEnd(s api.State) (int, int) {
	if n := len(s.Rows); n > 0 {
		return s.Rows[n-1].Index, s.Rows[n-1].Term
	}
	return s.Base.Index, s.Base.Term
}

// modelWrong is what of a state may not be, in the chapter's order.
func modelWrong(s api.State) string {
	end, term := modelEnd(s)
	switch {
	case !between(s.ID, 0, 4):
		return "id"
	case !between(s.Hard.Term, 0, most) || !between(s.Commit, 0, most) || !between(s.First, 0, most) || !between(s.Round, 0, most):
		return "numbers"
	case !between(s.Hard.Vote, 0, 5):
		return "vote"
	case !modelBase(s.Base):
		return "base"
	case !modelLog(s.Base.Index, s.Base.Term, s.Rows) || term > s.Hard.Term:
		return "log"
	case !between(s.Commit, s.Base.Index, end):
		return "commit"
	case !between(s.Role, 0, 3) || !between(s.Leader, 0, 5):
		return "role"
	case !between(s.Timer, 0, most) || s.Timeout < 1:
		return "timer"
	case len(s.Taken.Data) > 65536:
		return "taken"
	case slices.ContainsFunc(s.Votes, func(n int) bool { return !between(n, 0, 4) }):
		return "votes"
	}
	for _, p := range s.Peers {
		if !between(p.Next, 0, end+1) || !between(p.Match, 0, end) || !between(p.At, 0, len(s.Base.Data)) || p.Round < 0 {
			return "peers"
		}
	}
	return ""
}

func modelRight(m api.Msg) bool {
	for _, n := range []int{m.Term - 1, m.Index, m.Before, m.Commit, m.Round, m.At} {
		if !between(n, 0, most) {
			return false
		}
	}
	if m.Term > most || m.From == m.To || !between(m.From, 0, 4) || !between(m.To, 0, 4) {
		return false
	}
	bare := reflect.DeepEqual(tidyBase(m.Base), api.Base{})
	switch m.Kind {
	case 5:
		term := m.Before
		if n := len(m.Rows); n > 0 {
			term = m.Rows[n-1].Term
		}
		return bare && len(m.Rows) <= 6 && modelLog(m.Index, m.Before, m.Rows) && term <= m.Term
	case 7:
		return len(m.Rows) == 0 && m.Base.Index >= 1 && m.Base.Index == m.Index && modelBase(m.Base) && m.Base.Term <= m.Term && len(m.Base.Data) <= 400
	}
	return bare && len(m.Rows) == 0 && between(m.Kind, 1, 9)
}

// A model is a state as words tell it: its log is a map, its voters are counted anew.
type model struct {
	s    api.State
	out  api.Output
	log  map[int]api.Entry // the base, too, as an entry without data
	last int
}

func modelStep(s api.State, in api.Input) (api.State, api.Output) {
	if modelWrong(s) != "" {
		return s, api.Output{Err: api.ErrArg}
	}
	m := model{s: tidy(s), log: map[int]api.Entry{}}
	m.read(s.Base, s.Rows)
	if e := m.do(in); e != api.OK {
		return s, api.Output{Err: e}
	}
	m.s.Rows = nil
	for i := m.s.Base.Index + 1; i <= m.last; i++ {
		m.s.Rows = append(m.s.Rows, m.log[i])
	}
	return m.s, m.out
}

func (m *model) read(b api.Base, l []api.Entry) {
	m.log[b.Index] = api.Entry{Index: b.Index, Term: b.Term}
	m.last = b.Index
	for _, e := range l {
		m.log[e.Index] = e
		m.last = e.Index
	}
}

func (m *model) has(i int) bool { return between(i, m.s.Base.Index, m.last) }

func (m *model) fresh(index, term int) bool {
	mine := m.log[m.last].Term
	return term > mine || term == mine && index >= m.last
}

// roster is that by the rows up to an index, and the row's index.
func (m *model) roster(upTo int) (api.Roster, int) {
	r, by := m.s.Base.Roster, 0
	for i := m.s.Base.Index + 1; i <= min(m.last, upTo); i++ {
		if c, e := machine.Get(m.log[i].Data); e == api.OK && c.Kind == 9 && modelRoster(c.Roster) {
			r, by = c.Roster, i
		}
	}
	return r, by
}

func (m *model) votes(n int) bool {
	r, _ := m.roster(m.last)
	return slices.Contains(r.Voters, n)
}

// others are those of the roster, or those that vote, but for the node itself.
func (m *model) others(learners bool) []int {
	r, _ := m.roster(m.last)
	var l []int
	for n := range 5 {
		if n != m.s.ID && (slices.Contains(r.Voters, n) || learners && slices.Contains(r.Learners, n)) {
			l = append(l, n)
		}
	}
	return l
}

// most is the greatest number that more than half of the voters reached.
func (m *model) most(number func(n int) int) int {
	r, _ := m.roster(m.last)
	best := 0
	for _, v := range r.Voters {
		passed := 0
		for _, w := range r.Voters {
			if number(w) >= number(v) {
				passed++
			}
		}
		if 2*passed > len(r.Voters) {
			best = max(best, number(v))
		}
	}
	return best
}

func (m *model) send(to int, x api.Msg) {
	x.From, x.To = m.s.ID, to
	m.out.Send = append(m.out.Send, x)
}

func (m *model) keep(term, vote int) {
	if m.s.Hard.Term != term || m.s.Hard.Vote != vote {
		m.out.Hard = true
	}
	m.s.Hard.Term, m.s.Hard.Vote = term, vote
}

func (m *model) follow(term int) {
	if term > m.s.Hard.Term {
		m.keep(term, 0)
		m.s.Leader = 0
	}
	if m.s.Role == 3 {
		m.s.Timer = 0
		for n := range m.s.Peers {
			m.s.Peers[n] = api.Peer{}
		}
	}
	m.s.Role, m.s.Votes, m.s.Looks = 0, nil, nil
}

func (m *model) add(data []byte) bool {
	if m.last == most || m.s.Hard.Term == 0 {
		return false
	}
	m.last++
	m.log[m.last] = api.Entry{Index: m.last, Term: m.s.Hard.Term, Data: data}
	m.out.Rows = append(m.out.Rows, m.log[m.last])
	return true
}

func (m *model) ask(timeout int) {
	m.s.Timer, m.s.Timeout = 0, max(1, timeout)
	if !m.votes(m.s.ID) || m.s.Hard.Term == most {
		return
	}
	m.s.Role, m.s.Leader, m.s.Votes = 1, 0, []int{m.s.ID}
	for _, n := range m.others(false) {
		m.send(n, api.Msg{Kind: 1, Term: m.s.Hard.Term + 1, Index: m.last, Before: m.log[m.last].Term})
	}
	m.count()
}

func (m *model) count() {
	r, _ := m.roster(m.last)
	n := 0
	for _, v := range r.Voters {
		if slices.Contains(m.s.Votes, v) {
			n++
		}
	}
	if 2*n <= len(r.Voters) {
		return
	}
	if m.s.Role == 1 {
		m.stand()
	} else if m.s.Role == 2 {
		m.win()
	}
}

func (m *model) stand() {
	if m.s.Hard.Term == most {
		return
	}
	m.keep(m.s.Hard.Term+1, m.s.ID+1)
	m.s.Role, m.s.Leader, m.s.Votes = 2, 0, []int{m.s.ID}
	for _, n := range m.others(false) {
		m.send(n, api.Msg{Kind: 3, Term: m.s.Hard.Term, Index: m.last, Before: m.log[m.last].Term})
	}
	m.count()
}

func (m *model) win() {
	data, _ := machine.Put(api.Command{})
	if !m.add(data) {
		m.follow(m.s.Hard.Term)
		return
	}
	m.s.Role, m.s.Leader, m.s.Votes, m.s.Looks = 3, m.s.ID+1, nil, nil
	m.s.Timer, m.s.First, m.s.Round = 0, m.last, 0
	for n := range m.s.Peers {
		m.s.Peers[n] = api.Peer{Next: m.last}
	}
	m.tell()
	m.agree()
}

func (m *model) tell() {
	for _, n := range m.others(true) {
		m.feed(n)
	}
}

func (m *model) feed(n int) {
	p := m.s.Peers[n]
	x := api.Msg{Kind: 7, Term: m.s.Hard.Term, Round: m.s.Round}
	if p.Next <= m.s.Base.Index {
		x.Index, x.Base, x.At = m.s.Base.Index, m.s.Base, p.At
		x.Base.Data = nil
		for i := p.At; i < len(m.s.Base.Data) && i < p.At+400; i++ {
			x.Base.Data = append(x.Base.Data, m.s.Base.Data[i])
		}
		x.Last = p.At+len(x.Base.Data) == len(m.s.Base.Data)
		m.send(n, x)
		return
	}
	x.Kind, x.Index, x.Before, x.Commit = 5, p.Next-1, m.log[p.Next-1].Term, m.s.Commit
	for i := p.Next; i <= m.last && i < p.Next+6; i++ {
		x.Rows = append(x.Rows, m.log[i])
	}
	m.send(n, x)
}

func (m *model) agree() {
	match := m.most(func(n int) int {
		if n == m.s.ID {
			return m.last
		}
		return m.s.Peers[n].Match
	})
	if match > m.s.Commit && m.log[match].Term == m.s.Hard.Term {
		m.s.Commit = match
	}
	round := m.most(func(n int) int {
		if n == m.s.ID {
			return m.s.Round
		}
		return m.s.Peers[n].Round
	})
	looks := m.s.Looks
	m.s.Looks = nil
	for _, k := range looks {
		if k.Round <= round {
			m.out.Reads = append(m.out.Reads, k)
		} else {
			m.s.Looks = append(m.s.Looks, k)
		}
	}
}

func (m *model) do(in api.Input) api.Errno {
	leads := m.s.Role == 3
	switch in.Kind {
	case 1:
		m.s.Timer = min(most, m.s.Timer+1)
		if leads {
			m.tell()
		} else if m.s.Timer >= m.s.Timeout {
			m.ask(in.Timeout)
		}
		return api.OK
	case 2:
		if !modelRight(in.Msg) || in.Msg.To != m.s.ID {
			return api.ErrMsg
		}
		m.message(in.Msg)
		return api.OK
	case 3:
		c, e := machine.Get(in.Data)
		if e == api.OK && (c.Kind == 0 || c.Kind == 9) {
			e = api.ErrCommand
		}
		if e == api.OK && !leads {
			e = api.ErrLeader
		}
		if e == api.OK {
			e = m.added(in.Data)
		}
		return e
	case 4:
		return m.change(in.Roster)
	case 5:
		return m.look(in.ID)
	case 6:
		return m.pack(in.ID, in.Data)
	case 7:
		if !leads {
			return api.ErrLeader
		}
		if in.Node == m.s.ID || !m.votes(in.Node) {
			return api.ErrRoster
		}
		if m.s.Peers[in.Node].Match != m.last {
			return api.ErrBusy
		}
		m.send(in.Node, api.Msg{Kind: 9, Term: m.s.Hard.Term})
		return api.OK
	}
	return api.ErrArg
}

func (m *model) added(data []byte) api.Errno {
	if !m.add(data) {
		return api.ErrFull
	}
	m.out.Index = m.last
	m.tell()
	m.agree()
	return api.OK
}

func (m *model) change(next api.Roster) api.Errno {
	old, by := m.roster(m.last)
	if m.s.Role != 3 {
		return api.ErrLeader
	}
	if by > m.s.Commit || m.s.Commit < m.s.First {
		return api.ErrBusy
	}
	if !modelRoster(old) || !modelRoster(next) {
		return api.ErrRoster
	}
	is := func(r api.Roster, n int) string {
		if slices.Contains(r.Voters, n) {
			return "votes"
		} else if slices.Contains(r.Learners, n) {
			return "learns"
		}
		return ""
	}
	var changed []string
	for n := range 5 {
		if is(old, n) != is(next, n) {
			changed = append(changed, is(old, n)+" "+is(next, n))
		}
	}
	if len(changed) != 1 || changed[0] == " votes" || is(next, m.s.ID) != "votes" {
		return api.ErrChange
	}
	data, _ := machine.Put(api.Command{Kind: 9, Roster: next})
	return m.added(data)
}

func (m *model) look(id int) api.Errno {
	if m.s.Role != 3 {
		return api.ErrLeader
	}
	if m.s.Commit < m.s.First || m.s.Round == most {
		return api.ErrBusy
	}
	m.s.Round++
	m.s.Looks = append(m.s.Looks, api.Look{ID: id, Index: m.s.Commit, Round: m.s.Round})
	m.tell()
	m.agree()
	return api.OK
}

func (m *model) pack(index int, data []byte) api.Errno {
	if !between(index, m.s.Base.Index+1, m.s.Commit) {
		return api.ErrRows
	}
	if len(data) > 65536 {
		return api.ErrLong
	}
	r, _ := m.roster(index)
	m.base(api.Base{Index: index, Term: m.log[index].Term, Roster: r, Data: data})
	return api.OK
}

func (m *model) base(b api.Base) {
	if !m.has(b.Index) || m.log[b.Index].Term != b.Term {
		m.last = b.Index
	}
	m.s.Base = b
	m.log[b.Index] = api.Entry{Index: b.Index, Term: b.Term}
	for n := range m.s.Peers {
		m.s.Peers[n].At = 0
	}
	m.out.Based = true
}

func (m *model) message(x api.Msg) {
	term := m.s.Hard.Term
	if x.Kind == 1 {
		if x.Term > term && m.fresh(x.Index, x.Before) {
			m.send(x.From, api.Msg{Kind: 2, Term: x.Term, Yes: true})
		} else if term > 0 {
			m.send(x.From, api.Msg{Kind: 2, Term: term})
		}
		return
	}
	if x.Kind == 2 && x.Yes {
		if m.s.Role == 1 && x.Term == term+1 && !slices.Contains(m.s.Votes, x.From) {
			m.s.Votes = append(m.s.Votes, x.From)
			m.count()
		}
		return
	}
	if x.Term < term {
		if kind := map[int]int{3: 4, 5: 6, 7: 6}[x.Kind]; kind > 0 {
			m.send(x.From, api.Msg{Kind: kind, Term: term})
		}
		return
	}
	if x.Term > term {
		m.follow(x.Term)
	}
	m.behindTerm(x)
}

func (m *model) behindTerm(x api.Msg) {
	leads := m.s.Role == 3
	switch {
	case x.Kind == 3:
		yes := (m.s.Hard.Vote == 0 || m.s.Hard.Vote-1 == x.From) && m.fresh(x.Index, x.Before)
		if yes {
			m.keep(m.s.Hard.Term, x.From+1)
			m.s.Role, m.s.Votes, m.s.Timer = 0, nil, 0
		}
		m.send(x.From, api.Msg{Kind: 4, Term: m.s.Hard.Term, Yes: yes})
	case x.Kind == 4 && x.Yes && m.s.Role == 2 && !slices.Contains(m.s.Votes, x.From):
		m.s.Votes = append(m.s.Votes, x.From)
		m.count()
	case x.Kind == 5 && !leads:
		m.heed(x)
		m.rows(x)
	case x.Kind == 6 && leads:
		m.done(x)
	case x.Kind == 7 && !leads:
		m.heed(x)
		m.part(x)
	case x.Kind == 8 && leads:
		m.got(x)
	case x.Kind == 9 && !leads && m.votes(m.s.ID):
		m.s.Timer = 0
		m.stand()
	}
}

func (m *model) heed(x api.Msg) {
	m.follow(x.Term)
	m.s.Leader, m.s.Timer = x.From+1, 0
}

// from is where the entries of a message go another way than the log: 0 if they do not.
func (m *model) from(x api.Msg) int {
	for _, e := range x.Rows {
		if e.Index > m.s.Base.Index && (!m.has(e.Index) || m.log[e.Index].Term != e.Term) {
			return e.Index
		}
	}
	return 0
}

func (m *model) joins(x api.Msg) bool {
	if x.Index > m.last || x.Index >= m.s.Base.Index && m.log[x.Index].Term != x.Before {
		return false
	}
	if at := m.from(x); at > 0 {
		i := slices.IndexFunc(x.Rows, func(e api.Entry) bool { return e.Index == at })
		return m.log[at-1].Term <= x.Rows[i].Term && !(m.has(at) && at <= m.s.Commit)
	}
	return true
}

func (m *model) rows(x api.Msg) {
	a := api.Msg{Kind: 6, Term: m.s.Hard.Term, Round: x.Round}
	if !m.joins(x) {
		a.Index = m.last + 1
		if x.Index <= m.last {
			a.Index = max(x.Index, m.s.Base.Index+1)
			for a.Index-1 > m.s.Base.Index && m.log[a.Index-1].Term == m.log[a.Index].Term {
				a.Index--
			}
		}
		m.send(x.From, a)
		return
	}
	if at := m.from(x); at > 0 {
		if m.has(at) {
			m.out.Cut = at
		}
		for _, e := range x.Rows {
			if e.Index >= at {
				m.log[e.Index] = e
				m.out.Rows = append(m.out.Rows, e)
				m.last = e.Index
			}
		}
	}
	a.Yes, a.Index = true, x.Index+len(x.Rows)
	if m.s.Commit < x.Commit && m.s.Commit < a.Index {
		m.s.Commit = min(x.Commit, a.Index)
	}
	m.send(x.From, a)
}

func (m *model) heard(x api.Msg) {
	if own := min(x.Round, m.s.Round); own > m.s.Peers[x.From].Round {
		m.s.Peers[x.From].Round = own
	}
}

func (m *model) done(x api.Msg) {
	p := &m.s.Peers[x.From]
	if x.Yes && x.Index <= m.last {
		m.heard(x)
		m.reached(x)
	} else if !x.Yes {
		m.heard(x)
		p.Next--
		if x.Index < p.Next {
			p.Next = x.Index
		}
		if p.Next <= p.Match {
			p.Next = p.Match + 1
		}
		m.agree()
		m.feed(x.From)
	}
}

func (m *model) reached(x api.Msg) {
	p := &m.s.Peers[x.From]
	was := p.Match
	p.Match = max(p.Match, x.Index)
	if p.Next <= p.Match {
		p.Next = p.Match + 1
	}
	m.agree()
	if p.Match != was && p.Next <= m.last {
		m.feed(x.From)
	}
}

func (m *model) part(x api.Msg) {
	a := api.Msg{Kind: 8, Term: m.s.Hard.Term, Index: x.Index, Round: x.Round}
	taken := &m.s.Taken
	if x.Index <= m.s.Commit {
		a.Last = true
		m.send(x.From, a)
		return
	}
	came := true
	if x.At == 0 {
		*taken = x.Base
	} else if taken.Index == x.Base.Index && taken.Term == x.Base.Term && x.At == len(taken.Data) {
		taken.Data = append(bytes.Clone(taken.Data), x.Base.Data...)
	} else {
		came = false
	}
	if len(taken.Data) > 65536 {
		*taken, came = api.Base{}, false
	}
	if came && x.Last {
		m.base(*taken)
		m.s.Commit, *taken, a.Last = x.Index, api.Base{}, true
	} else if taken.Index == x.Index && taken.Term == x.Base.Term {
		a.At = len(taken.Data)
	}
	m.send(x.From, a)
}

func (m *model) got(x api.Msg) {
	if x.Index > m.last {
		return
	}
	m.heard(x)
	p := &m.s.Peers[x.From]
	if x.Last {
		m.reached(x)
	} else if x.Index == m.s.Base.Index && x.At <= len(m.s.Base.Data) {
		was := p.At
		p.At = x.At
		m.agree()
		if p.At > was {
			m.feed(x.From)
		}
	}
}

// tidy is a state with nil for each empty list, and in memory of its own; the others likewise.
func tidy(s api.State) api.State {
	s.Base, s.Taken, s.Rows = tidyBase(s.Base), tidyBase(s.Taken), tidyRows(s.Rows)
	s.Votes, s.Looks = append([]int(nil), s.Votes...), append([]api.Look(nil), s.Looks...)
	return s
}

func tidyBase(b api.Base) api.Base {
	b.Data = append([]byte(nil), b.Data...)
	b.Roster.Voters = append([]int(nil), b.Roster.Voters...)
	b.Roster.Learners = append([]int(nil), b.Roster.Learners...)
	return b
}

func tidyRows(l []api.Entry) []api.Entry {
	l = append([]api.Entry(nil), l...)
	for i := range l {
		l[i].Data = append([]byte(nil), l[i].Data...)
	}
	return l
}

func tidyOutput(o api.Output) api.Output {
	o.Rows, o.Reads = tidyRows(o.Rows), append([]api.Look(nil), o.Reads...)
	o.Send = append([]api.Msg(nil), o.Send...)
	for i, m := range o.Send {
		o.Send[i].Base, o.Send[i].Rows = tidyBase(m.Base), tidyRows(m.Rows)
	}
	return o
}

func alikeStates(a, b api.State) bool { return reflect.DeepEqual(tidy(a), tidy(b)) }

func alikeOutputs(a, b api.Output) bool { return reflect.DeepEqual(tidyOutput(a), tidyOutput(b)) }
