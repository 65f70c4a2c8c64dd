package raft

import (
	"bytes"
	"fmt"
	"math/rand"
	"reflect"
	"slices"
	"testing"

	"tidemark/api"
)

// A member is a node of a world: its state, and what it kept by its outputs alone.
type member struct {
	s    api.State
	up   bool
	hard api.Hard
	base api.Base
	rows []api.Entry
}

type place struct{ index, term int }

// what stands at a place: its bytes, and the term ahead of it.
type stood struct {
	data  string
	ahead int
}

// chosen is an entry that was committed, and in which term that was told first.
type chosen struct {
	term, by int
	data     string
}

// A world is five nodes and the messages between them, and all that was ever seen of them.
type world struct {
	t       *testing.T
	r       thrower
	name    string
	nodes   [api.MaxNodes]member
	bag     []api.Msg
	wall    int
	begin   int
	leads   map[int]int
	stood   map[place]stood
	chosen  map[int]chosen
	top     int
	votes   map[place]int
	looks   map[int]int
	look    int
	seen    map[string]int
	unruled bool // nothing of the bag gets lost
}

func newWorld(t *testing.T, seed int64, b api.Base, seen map[string]int) *world {
	w := &world{t: t, r: thrower{rand.New(rand.NewSource(seed))}, name: fmt.Sprint("seed ", seed), begin: b.Index, top: b.Index, leads: map[int]int{}, stood: map[place]stood{}, chosen: map[int]chosen{}, votes: map[place]int{}, looks: map[int]int{}, seen: seen}
	b.Roster = w.r.roster()
	for n := range w.nodes {
		m := &w.nodes[n]
		if slices.Contains(slices.Concat(b.Roster.Voters, b.Roster.Learners), n) {
			m.hard, m.base = api.Hard{Term: b.Term}, b
		}
		w.open(n)
	}
	return w
}

func (w *world) open(n int) {
	m := &w.nodes[n]
	s, e := Start(n, m.hard, m.base, m.rows, 1+w.r.Intn(8))
	if e != api.OK {
		w.t.Fatal(w.name, "a node does not open", e, show(m))
	}
	m.s, m.up = s, true
}

// image is what a base's data is: what was committed up to an index, of a length of its own.
func (w *world) image(index int) []byte {
	sum := 0
	for i := w.begin + 1; i <= index; i++ {
		c := w.chosen[i]
		sum = (sum*31 + c.term*7 + len(c.data)) % 251
	}
	return bytesOf(index*173%1700, sum)
}

func (w *world) fail(what string, v ...any) {
	w.t.Helper()
	for i := range v {
		v[i] = show(v[i])
	}
	w.t.Fatal(append([]any{w.name, what}, v...)...)
}

// do has a node do an input, and checks all that follows.
func (w *world) do(n int, in api.Input) api.Output {
	w.t.Helper()
	m := &w.nodes[n]
	s := m.s
	s1, o := Step(s, in)
	s2, o2 := modelStep(s, in)
	if !alikeStates(s1, s2) || !alikeOutputs(o, o2) {
		w.fail("not as the model", in, s, s1, o, s2, o2)
	}
	count(w.seen, s, in, s1, o)
	if o.Err != api.OK {
		if !alikeStates(s, s1) {
			w.fail("an error changes something", in, s, s1)
		}
		return o
	}
	w.keep(m, s1, o)
	w.steady(n, s, s1)
	w.match(s1)
	w.committed(n, s, s1, o)
	w.kept(s, s1)
	w.led(n, s, s1)
	w.mayBe(s1, o)
	m.s = s1
	for _, x := range o.Send {
		if len(w.bag) < 200 {
			w.bag = append(w.bag, x)
		}
	}
	return o
}

// keep does what an output says that is to be kept: it must be all.
func (w *world) keep(m *member, s api.State, o api.Output) {
	w.t.Helper()
	if o.Hard {
		m.hard = s.Hard
	}
	if o.Based {
		at := slices.IndexFunc(m.rows, func(e api.Entry) bool { return e.Index == s.Base.Index && e.Term == s.Base.Term })
		rest := m.rows[at+1:]
		if at < 0 {
			rest = nil
		}
		m.base, m.rows = s.Base, rest
	}
	if o.Cut > 0 {
		m.rows = m.rows[:o.Cut-m.base.Index-1]
	}
	m.rows = append(slices.Clip(m.rows), o.Rows...)
	if m.hard != s.Hard || !reflect.DeepEqual(tidyBase(m.base), tidyBase(s.Base)) || !reflect.DeepEqual(tidyRows(m.rows), tidyRows(s.Rows)) {
		w.fail("the output does not say what to keep", m, s, o)
	}
}

// P19.8
func (w *world) steady(n int, s, s1 api.State) {
	w.t.Helper()
	if s1.Hard.Term < s.Hard.Term || s1.Commit < s.Commit {
		w.fail("P19.8: it falls", s, s1)
	}
	at := place{n, s1.Hard.Term}
	if was := w.votes[at]; was != 0 && was != s1.Hard.Vote {
		w.fail("P19.8: another vote", s, s1)
	}
	w.votes[at] = s1.Hard.Vote
}

// P19.6
func (w *world) match(s api.State) {
	w.t.Helper()
	ahead := s.Base.Term
	for _, e := range s.Rows {
		at, is := place{e.Index, e.Term}, stood{string(e.Data), ahead}
		if was, ok := w.stood[at]; ok && was != is {
			w.fail("P19.6: another entry of one index and term", at, was, is)
		}
		w.stood[at] = is
		ahead = e.Term
	}
}

// P19.7, and what is told of what was committed.
func (w *world) committed(n int, s, s1 api.State, o api.Output) {
	w.t.Helper()
	if s1.Base.Index > w.begin && (w.chosen[s1.Base.Index].term != s1.Base.Term || !bytes.Equal(s1.Base.Data, w.image(s1.Base.Index))) {
		w.fail("P19.7: another base", s1, w.chosen[s1.Base.Index])
	}
	for _, e := range s1.Rows {
		if e.Index > s1.Commit {
			break
		}
		is := chosen{e.Term, s1.Hard.Term, string(e.Data)}
		was, ok := w.chosen[e.Index]
		if !ok && s1.Role != api.Leading {
			w.fail("only a leader commits first", e, s, s1)
		}
		if ok {
			is.by = was.by
		}
		if ok && was != is {
			w.fail("P19.7: another entry was committed", e, was)
		}
		w.chosen[e.Index] = is
		w.top = max(w.top, e.Index)
	}
	for _, k := range o.Reads {
		if s1.Commit < w.looks[k.ID] || k.Index > s1.Commit {
			w.fail("a look does not see what was committed", k, w.looks[k.ID], s1)
		}
		delete(w.looks, k.ID)
	}
}

// P19.7: what was committed is never cut.
func (w *world) kept(s, s1 api.State) {
	w.t.Helper()
	for _, e := range s.Rows {
		c, ok := w.chosen[e.Index]
		if ok && c.term == e.Term && e.Index > s1.Base.Index && !slices.ContainsFunc(s1.Rows, func(x api.Entry) bool { return x.Index == e.Index && x.Term == e.Term }) {
			w.fail("P19.7: it is cut", e, s, s1)
		}
	}
}

// P19.5, P19.7
func (w *world) led(n int, s, s1 api.State) {
	w.t.Helper()
	if s1.Role != api.Leading {
		return
	}
	if was, ok := w.leads[s1.Hard.Term]; ok && was != n {
		w.fail("P19.5: two leaders", was, s1)
	}
	w.leads[s1.Hard.Term] = n
	if s.Role == api.Leading {
		return
	}
	w.seen["leaders"]++
	for i := s1.Base.Index + 1; i <= w.top; i++ {
		c := w.chosen[i]
		if at := i - s1.Base.Index - 1; c.by < s1.Hard.Term && (at >= len(s1.Rows) || s1.Rows[at].Term != c.term) {
			w.fail("P19.7: who leads has not what was committed", i, c, s1)
		}
	}
}

// P19.9
func (w *world) mayBe(s api.State, o api.Output) {
	w.t.Helper()
	if e := Check(s); e != api.OK || modelWrong(s) != "" {
		w.fail("P19.9: a state that may not be", s)
	}
	for _, m := range o.Send {
		if m.Kind == api.MDone && m.Index == most+1 {
			w.seen["a hint behind the end"]++
			continue
		}
		if Right(m) != api.OK || !modelRight(m) {
			w.fail("P19.9: a message that may not be", m)
		}
	}
}

func (w *world) running() []int {
	var l []int
	for n, m := range w.nodes {
		if m.up {
			l = append(l, n)
		}
	}
	return l
}

// take delivers a message, unless it gets lost.
func (w *world) take(i int, keep bool) {
	m := w.bag[i]
	if !keep {
		w.bag = slices.Delete(w.bag, i, i+1)
	}
	across := w.wall>>m.From&1 != w.wall>>m.To&1
	if w.nodes[m.To].up && (!across || w.unruled) {
		w.do(m.To, heard(m))
	}
}

// live is a step of a world.
func (w *world) live() {
	r := w.r
	n, i := r.Intn(5), r.Intn(5)
	if up := w.running(); len(up) > 0 {
		n, i = pick(r, up...), pick(r, up...)
	}
	if leaders := slices.DeleteFunc(w.running(), func(n int) bool { return w.nodes[n].s.Role != api.Leading }); len(leaders) > 0 && r.often(80) {
		n = pick(r, leaders...)
	}
	switch a := r.Intn(1000); {
	case a < 500 && len(w.bag) > 0:
		w.take(r.Intn(min(len(w.bag), 12)), r.often(6))
	case a < 525 && len(w.bag) > 0:
		lost := r.Intn(len(w.bag))
		w.bag = slices.Delete(w.bag, lost, lost+1)
	case a < 533:
		w.wall = pick(r, 0, 0, r.Intn(32))
	case a < 539:
		w.crash(n)
	case a < 590:
		if down := r.Intn(5); !w.nodes[down].up {
			w.open(down)
		}
	case !w.nodes[n].up:
	case a < 740:
		w.do(i, tick(r.Intn(9)))
	case a < 780:
		w.do(n, tick(r.Intn(9)))
	default:
		w.ask(n, a)
	}
}

func (w *world) crash(n int) {
	m := &w.nodes[n]
	if m.up && w.r.often(40) {
		m.up = false
	}
}

func (w *world) ask(n, a int) {
	r, s := w.r, w.nodes[n].s
	switch {
	case a < 840:
		w.do(n, api.Input{Kind: api.IWrite, Data: pick(r, opens(), put(api.Command{Kind: api.CClose, Session: 1 + r.Intn(9), Seq: 1 + r.Intn(9)}))})
	case a < 875:
		m := model{s: s, log: map[int]api.Entry{}}
		m.read(s.Base, s.Rows)
		now, _ := m.roster(m.last)
		w.do(n, api.Input{Kind: api.IRoster, Roster: r.near(now)})
	case a < 910:
		w.look++
		w.looks[w.look] = w.top
		w.do(n, api.Input{Kind: api.IRead, ID: w.look})
	case a < 940:
		i := s.Base.Index + r.Intn(s.Commit-s.Base.Index+1)
		w.do(n, api.Input{Kind: api.IPack, ID: i, Data: w.image(i)})
	default:
		w.hand(n)
	}
}

// hand has a node hand over to each one, till one takes it.
func (w *world) hand(n int) {
	for to := range w.nodes {
		if o := w.do(n, api.Input{Kind: api.IHand, Node: to}); o.Err == api.OK {
			w.seen["handed"]++
			return
		}
	}
}

func (w *world) all() {
	w.t.Helper()
	for n := 0; len(w.bag) > 0; n++ {
		if n > 20000 {
			w.fail("the messages do not end")
		}
		w.take(0, false)
	}
}

// fit tells whether a node votes, and its log is fresh for a majority's.
func (w *world) fit(n int) bool {
	s := w.nodes[n].s
	m := model{s: s, log: map[int]api.Entry{}}
	m.read(s.Base, s.Rows)
	r, _ := m.roster(m.last)
	index, term := modelEnd(s)
	behind := 0
	for _, v := range r.Voters {
		i, t := modelEnd(w.nodes[v].s)
		if term > t || term == t && index >= i {
			behind++
		}
	}
	return slices.Contains(r.Voters, n) && 2*behind > len(r.Voters)
}

// P19.10
func (w *world) end() {
	w.t.Helper()
	w.unruled = true
	for n := range w.nodes {
		if !w.nodes[n].up {
			w.open(n)
		}
	}
	w.all()
	var fit []int
	for n := range w.nodes {
		if w.fit(n) {
			fit = append(fit, n)
		}
	}
	if len(fit) == 0 {
		w.fail("nobody's log is fresh for a majority's")
	}
	n := pick(w.r, fit...)
	m := &w.nodes[n]
	for i := 0; m.s.Role != api.Leading; i++ {
		if i > 60 {
			w.fail("P19.10: it does not lead", m.s)
		}
		w.do(n, tick(1+w.r.Intn(8)))
		w.all()
	}
	for range 3 {
		w.do(n, tick(1))
		w.all()
	}
	w.alike(n)
	w.seen["ended"]++
}

// alike fails unless all of a leader's roster have what it has.
func (w *world) alike(n int) {
	w.t.Helper()
	s := w.nodes[n].s
	m := model{s: s, log: map[int]api.Entry{}}
	m.read(s.Base, s.Rows)
	index, term := modelEnd(s)
	if s.Role != api.Leading || s.Commit != index {
		w.fail("P19.10: it does not commit", s)
	}
	for _, v := range append(m.others(true), n) {
		x := w.nodes[v].s
		i, t := modelEnd(x)
		if i != index || t != term || x.Commit != s.Commit || x.Leader != n+1 || x.Hard.Term != s.Hard.Term {
			w.fail("P19.10: one has not what the leader has", x, s)
		}
	}
}

// P19.5 to P19.10: whatever gets lost, comes twice, or crashes.
func TestLives(t *testing.T) {
	seen := map[string]int{}
	for seed := range int64(50) {
		w := newWorld(t, seed, api.Base{}, seen)
		for range 1500 {
			w.live()
		}
		w.end()
	}
	for name, least := range map[string]int{"leaders": 150, "handed": 60, "ended": 50, "message 5 cuts": 5, "message 7 based": 20, "message 7 sends 8 false false": 50, "message 6 commits": 300, "message 6 reads": 50, "input 4 rows": 60, "message 9 sends 3 false false": 60, "input 6 based": 200} {
		if seen[name] < least {
			t.Error("seldom:", name, seen[name])
		}
	}
}

// P19.5 to P19.9 near the last index and term.
func TestLivesAtTheEnd(t *testing.T) {
	seen := map[string]int{}
	for seed := range int64(40) {
		r := rand.New(rand.NewSource(seed))
		w := newWorld(t, 1000+seed, api.Base{Index: most - r.Intn(20), Term: most - r.Intn(30), Data: bytesOf(500, 1)}, seen)
		for range 600 {
			w.live()
		}
	}
	for name, least := range map[string]int{"leaders": 30, "input 3 error 7": 5, "message 7 based": 5} {
		if seen[name] < least {
			t.Error("seldom:", name, seen[name])
		}
	}
}
