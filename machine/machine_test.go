package machine

import (
	"bytes"
	"math"
	"slices"
	"testing"

	"tidemark/api"
	"tidemark/feed"
	"tidemark/group"
	"tidemark/sess"
	"tidemark/wire"
)

// play is a machine, and what its only session counted last.
type play struct {
	*Machine
	t   *testing.T
	seq int
}

// begin is a new machine with a session.
func begin(t *testing.T) *play {
	t.Helper()
	p := &play{New(), t, 0}
	p.does(api.Command{Kind: api.COpen}, api.OK, 1)
	return p
}

// does fails unless a command, as the next one of its session, has that reply: its bytes.
func (p *play) does(c api.Command, e api.Errno, n int) []byte {
	p.t.Helper()
	if Counts(c.Kind) {
		p.seq++
		c.Session, c.Seq = 1, p.seq
	}
	b := modelPut(c)
	if got := p.Apply(p.At()+1, b); got != (api.Reply{Err: e, N: n}) {
		p.t.Errorf("at %d: %v: %v, not %d %d", p.At(), c, got, e, n)
	}
	return b
}

// write is that operations are done, or refused.
func (p *play) write(e api.Errno, l ...api.Op) {
	p.t.Helper()
	p.does(api.Command{Kind: api.CWrite, Ops: l}, e, 0)
}

// keys fails unless the map has just these.
func (p *play) keys(l ...api.Op) {
	p.t.Helper()
	if got := p.Keys("", ""); !slices.Equal(got, l) {
		p.t.Errorf("at %d: %v, not %v", p.At(), got, l)
	}
}

// told fails unless a subscriber is told just that behind a place, up to the last index.
func (p *play) told(id, after int, l ...api.Event) {
	p.t.Helper()
	if got, to, e := p.Read(id, after, 1000); !slices.Equal(got, l) || to != p.At() || e != api.OK {
		p.t.Errorf("at %d: %v %d %d, not %v", p.At(), got, to, e, l)
	}
}

// named is a command of a kind that has a name.
func named(kind int, name string) api.Command {
	return api.Command{Kind: kind, View: api.View{Name: name}}
}

// The document's example.
func TestExample(t *testing.T) {
	m := New()
	write := api.Command{Kind: api.CWrite, Session: 1, Seq: 1, Ops: []api.Op{put("a", "1")}}
	batch := api.Command{Kind: api.CApply, Pos: 7, Ops: []api.Op{put("b", "2")}}
	for i, x := range []struct {
		c    api.Command
		want api.Reply
	}{
		{api.Command{Kind: api.COpen}, api.Reply{N: 1}}, {write, api.Reply{}}, {write, api.Reply{}}, {api.Command{Kind: api.CSub, Session: 1, Seq: 2}, api.Reply{N: 1}}, {batch, api.Reply{N: 7}}, {batch, api.Reply{N: 7}}, {api.Command{Kind: api.CApply, From: 5, Pos: 9}, api.Reply{Err: api.ErrMark, N: 7}},
	} {
		if got := m.Apply(i+1, modelPut(x.c)); got != x.want {
			t.Errorf("%d: %v", i, got)
		}
	}
	p := &play{m, t, 2}
	p.keys(put("a", "1"), put("b", "2"))
	p.told(1, 4, api.Event{Pos: 5, Key: "b", Has: true, Now: "2"})
	if m.At() != 7 || m.Mark() != 7 || !alike(m.Subs(), []api.Sub{{ID: 1, From: 4, At: 4}}) || !slices.Equal(m.Seats(), []api.Seat{{Session: 1, Seq: 2, Reply: api.Reply{N: 1}}}) {
		t.Error(m.At(), m.Mark(), m.Subs(), m.Seats())
	}
}

// P15.2
func TestIndices(t *testing.T) {
	none := modelPut(api.Command{})
	m := New()
	for i, c := range []struct {
		index int
		data  []byte
		want  api.Errno
	}{
		{0, none, api.ErrArg}, {2, none, api.ErrArg}, {-1, none, api.ErrArg}, {math.MinInt, nil, api.ErrArg}, {math.MaxInt, nil, api.ErrArg}, {1, none, api.OK}, {1, none, api.ErrArg}, {2, nil, api.ErrCommand}, {2, none, api.ErrArg}, {3, []byte("x"), api.ErrCommand}, {4, none[1:], api.ErrCommand}, {5, append(none, 0), api.ErrCommand}, {6, none, api.OK},
	} {
		at, image := m.At(), m.Image()
		if got := m.Apply(c.index, c.data); got != (api.Reply{Err: c.want}) {
			t.Errorf("%d: %v", i, got)
		}
		if c.want == api.ErrArg && (m.At() != at || !bytes.Equal(m.Image(), image)) || c.want != api.ErrArg && m.At() != c.index {
			t.Errorf("%d: at %d", i, m.At())
		}
	}
	last := newModel()
	last.at = most - 1
	last.feed.Note(most - 1)
	m, e := Load(last.image())
	if e != api.OK {
		t.Fatal(e)
	}
	if got := m.Apply(most, none); got != (api.Reply{}) || m.At() != most {
		t.Error(got)
	}
	image := m.Image()
	if got := m.Apply(most+1, none); got != (api.Reply{Err: api.ErrArg}) || m.At() != most || !bytes.Equal(m.Image(), image) {
		t.Error(got)
	}
}

// P15.2: an entry that is no command, or is refused, is a place of the feed all the same.
func TestEveryEntryIsAPlace(t *testing.T) {
	p := begin(t)
	p.does(api.Command{Kind: api.CSub}, api.OK, 1)
	p.Apply(3, []byte("no command"))
	p.told(1, 2)
	p.write(api.OK, put("a", "1"))
	p.does(api.Command{Kind: api.CWrite, Conds: []api.Op{gone("a")}, Ops: []api.Op{gone("a")}}, api.ErrCond, 0)
	p.does(api.Command{}, api.OK, 0)
	p.told(1, 2, api.Event{Pos: 4, Key: "a", Has: true, Now: "1"})
	p.does(api.Command{Kind: api.CAck, Sub: 1, Pos: 6}, api.OK, 0)
	p.told(1, 6)
}

// P15.2, P15.5
func TestSessions(t *testing.T) {
	m := New()
	apply := func(c api.Command) api.Reply { return m.Apply(m.At()+1, modelPut(c)) }
	put := func(session, seq int, value string) api.Command {
		return api.Command{Kind: api.CWrite, Session: session, Seq: seq, Ops: []api.Op{put("a", value)}}
	}
	if got := apply(put(1, 1, "0")); got != (api.Reply{Err: api.ErrSession}) || len(m.Keys("", "")) != 0 {
		t.Error(got)
	}
	for i := range 8 {
		if got := apply(api.Command{Kind: api.COpen}); got != (api.Reply{N: i + 1}) {
			t.Error(got)
		}
	}
	if got := apply(api.Command{Kind: api.COpen}); got != (api.Reply{Err: api.ErrFull}) {
		t.Error(got)
	}
	refused := api.Command{Kind: api.CDrop, Session: 2, Seq: 2, View: api.View{Name: "x"}}
	for i, x := range []struct {
		c    api.Command
		want api.Reply
		a    string
	}{
		{put(2, 2, "1"), api.Reply{Err: api.ErrGap}, ""}, {put(2, 1, "1"), api.Reply{}, "1"}, {put(3, 1, "2"), api.Reply{}, "2"}, {put(2, 1, "1"), api.Reply{}, "2"}, {put(2, 1, "9"), api.Reply{}, "2"}, {put(9, 1, "9"), api.Reply{Err: api.ErrSession}, "2"},
		{refused, api.Reply{Err: api.ErrNone}, "2"}, {api.Command{Kind: api.CView, Session: 3, Seq: 2, View: api.View{Name: "x", Kind: 1, Field: "g"}}, api.Reply{}, "2"}, {refused, api.Reply{Err: api.ErrNone}, "2"}, {put(2, 2, "9"), api.Reply{Err: api.ErrNone}, "2"}, {put(2, 1, "9"), api.Reply{Err: api.ErrOld}, "2"}, {put(2, 3, "3"), api.Reply{}, "3"},
		{api.Command{Kind: api.CClose, Session: 2, Seq: 3}, api.Reply{}, "3"}, {put(2, 4, "4"), api.Reply{}, "4"}, {api.Command{Kind: api.CClose, Session: 2, Seq: 6}, api.Reply{Err: api.ErrGap}, "4"}, {api.Command{Kind: api.CClose, Session: 2, Seq: 5}, api.Reply{}, "4"}, {api.Command{Kind: api.CClose, Session: 2, Seq: 5}, api.Reply{Err: api.ErrSession}, "4"}, {put(2, 5, "5"), api.Reply{Err: api.ErrSession}, "4"},
		{api.Command{Kind: api.COpen}, api.Reply{N: 9}, "4"}, {put(9, 1, "5"), api.Reply{}, "5"},
	} {
		if got := apply(x.c); got != x.want {
			t.Errorf("%d: %v", i, got)
		}
		a := ""
		for _, o := range m.Keys("", "") {
			a += o.Value
		}
		if a != x.a {
			t.Errorf("%d: %v", i, m.Keys("", ""))
		}
	}
	want := []api.Seat{{Session: 1}, {Session: 3, Seq: 2}, {Session: 4}, {Session: 5}, {Session: 6}, {Session: 7}, {Session: 8}, {Session: 9, Seq: 1}}
	if !slices.Equal(m.Seats(), want) {
		t.Error(m.Seats())
	}
}

// P15.2, P15.4, P15.8
func TestWritesAndViews(t *testing.T) {
	p := begin(t)
	const half = "g:x n:6000000000000000000"
	p.write(api.OK, put("a", half), put("b", "g:x n:-1"))
	p.does(api.Command{Kind: api.CView, View: api.View{Name: "s", Kind: api.VSum, Field: "g", Of: "n"}}, api.OK, 0)
	p.does(api.Command{Kind: api.CView, View: api.View{Name: "i", Kind: api.VIndex, Field: "g"}}, api.OK, 0)
	p.does(api.Command{Kind: api.CView, View: api.View{Name: "i", Kind: api.VCount, Field: "g"}}, api.ErrThere, 0)
	rows := func(name string, want ...api.Row) {
		t.Helper()
		if l, e := p.Rows(name); !alike(l, want) || e != api.OK {
			t.Error(name, l, e)
		}
	}
	rows("s", api.Row{Text: "x", N: 5999999999999999999})
	p.does(api.Command{Kind: api.CSub}, api.OK, 1)
	from := p.At()
	p.write(api.ErrOver, put("c", half), gone("b"))
	p.keys(put("a", half), put("b", "g:x n:-1"))
	p.told(1, from)
	p.write(api.OK, put("c", half), gone("a"))
	rows("s", api.Row{Text: "x", N: 5999999999999999999})
	rows("i", api.Row{Text: "x", Keys: []string{"b", "c"}, N: 2})
	p.told(1, from, api.Event{Pos: from + 2, Key: "c", Has: true, Now: half}, api.Event{Pos: from + 2, Key: "a", Had: true, Old: half})
	p.does(api.Command{Kind: api.CWrite, Conds: []api.Op{gone("c")}, Ops: []api.Op{gone("c")}}, api.ErrCond, 0)
	p.does(api.Command{Kind: api.CWrite, Conds: []api.Op{put("c", half), gone("a")}, Ops: []api.Op{gone("c"), gone("z")}}, api.OK, 0)
	p.keys(put("b", "g:x n:-1"))
	p.does(named(api.CDrop, "s"), api.OK, 0)
	p.does(named(api.CDrop, "s"), api.ErrNone, 0)
	if _, e := p.Rows("s"); e != api.ErrNone || len(p.Views()) != 1 {
		t.Error(e)
	}
	p.write(api.OK, put("d", half), put("e", half))
	p.does(api.Command{Kind: api.CView, View: api.View{Name: "s", Kind: api.VSum, Field: "g", Of: "n"}}, api.ErrOver, 0)
	if l := p.Views(); len(l) != 1 || l[0].Name != "i" {
		t.Error(l)
	}
	if l := p.Keys("c", "e"); !slices.Equal(l, []api.Op{put("d", half)}) {
		t.Error(l)
	}
}

// P15.2: no more than 24 keys.
func TestKeysThatAreFull(t *testing.T) {
	p := begin(t)
	for i := range 4 {
		p.write(api.OK, many(24)[6*i:6*i+6]...)
	}
	p.write(api.ErrFull, put("z", ""))
	p.write(api.OK, put("z", ""), gone("ka"))
	p.does(api.Command{Kind: api.CApply, Pos: 1, Ops: []api.Op{put("y", ""), gone("z")}}, api.ErrFull, 0)
	p.does(api.Command{Kind: api.CApply, Pos: 1, Ops: []api.Op{gone("z"), put("y", "")}}, api.OK, 1)
	if l := p.Keys("", ""); len(l) != 24 || l[23].Key != "y" {
		t.Error(l)
	}
}

// P15.2: a subscriber begins behind its own place, and may have what was told ahead of this one.
func TestSubscribers(t *testing.T) {
	p := begin(t)
	p.does(api.Command{Kind: api.CSub, Filter: api.Filter{Kind: api.FPrefix, Text: "a"}}, api.OK, 1)
	again := p.does(api.Command{Kind: api.CSub}, api.OK, 2)
	if got := p.Apply(p.At()+1, again); got != (api.Reply{N: 2}) || len(p.Subs()) != 2 {
		t.Error("once more:", got, p.Subs())
	}
	p.write(api.OK, put("a", "1"), put("b", "1"))
	if !alike(p.Subs(), []api.Sub{{ID: 1, From: 2, At: 2, Filter: api.Filter{Kind: api.FPrefix, Text: "a"}}, {ID: 2, From: 3, At: 3}}) {
		t.Error(p.Subs())
	}
	p.told(1, 2, api.Event{Pos: 5, Key: "a", Has: true, Now: "1"})
	p.told(2, 3, api.Event{Pos: 5, Key: "a", Has: true, Now: "1"}, api.Event{Pos: 5, Key: "b", Has: true, Now: "1"})
	p.does(api.Command{Kind: api.CAck, Sub: 1, Pos: 6}, api.ErrRange, 0)
	p.does(api.Command{Kind: api.CAck, Sub: 1, Pos: 6}, api.OK, 0)
	p.does(api.Command{Kind: api.CAck, Sub: 1, Pos: 5}, api.ErrBack, 0)
	p.does(api.Command{Kind: api.CAck, Sub: 3, Pos: 5}, api.ErrFeed, 0)
	p.does(api.Command{Kind: api.CSub}, api.OK, 3)
	p.does(api.Command{Kind: api.CSub}, api.OK, 4)
	p.does(api.Command{Kind: api.CSub}, api.ErrFull, 0)
	p.does(api.Command{Kind: api.CUnsub, Sub: 1}, api.OK, 0)
	p.does(api.Command{Kind: api.CUnsub, Sub: 1}, api.ErrFeed, 0)
	p.does(api.Command{Kind: api.CSub}, api.OK, 5)
	for i := range 7 {
		p.write(api.OK, put("a", string(rune('a'+i))), put("b", string(rune('a'+i))), put("c", string(rune('a'+i))), put("d", string(rune('a'+i))), put("e", string(rune('a'+i))))
	}
	if l := p.Subs(); !l[0].Gone || !l[1].Gone || !l[2].Gone || !l[3].Gone {
		t.Error(l)
	}
	p.does(api.Command{Kind: api.CAck, Sub: 5, Pos: p.At()}, api.ErrEvicted, 0)
}

// P15.2
func TestBatches(t *testing.T) {
	p := begin(t)
	p.does(api.Command{Kind: api.CSub}, api.OK, 1)
	p.does(api.Command{Kind: api.CView, View: api.View{Name: "s", Kind: api.VSum, Field: "g", Of: "n"}}, api.OK, 0)
	p.does(api.Command{Kind: api.CApply, From: 1, Pos: 2}, api.ErrMark, 0)
	p.does(api.Command{Kind: api.CApply, Pos: 4, Ops: []api.Op{put("b", "1"), put("a", "1"), put("b", "2"), gone("a"), gone("z"), put("b", "2")}}, api.OK, 4)
	p.keys(put("b", "2"))
	p.told(1, 2, api.Event{Pos: 5, Key: "b", Has: true, Now: "1"}, api.Event{Pos: 5, Key: "a", Has: true, Now: "1"}, api.Event{Pos: 5, Key: "b", Had: true, Old: "1", Has: true, Now: "2"}, api.Event{Pos: 5, Key: "a", Had: true, Old: "1"})
	const much = "g:x n:9223372036854775807"
	p.does(api.Command{Kind: api.CApply, From: 4, Pos: 5, Ops: []api.Op{put("c", much), put("d", "g:x n:1")}}, api.ErrOver, 4)
	p.does(api.Command{Kind: api.CApply, From: 4, Pos: 5, Ops: many(25)}, api.ErrFull, 4)
	p.keys(put("b", "2"))
	p.does(api.Command{Kind: api.CApply, From: 4, Pos: 5, Ops: []api.Op{put("c", much), put("d", "g:x n:1"), gone("c")}}, api.OK, 5)
	p.does(api.Command{Kind: api.CApply, From: 4, Pos: 5}, api.OK, 5)
	p.does(api.Command{Kind: api.CApply, From: 0, Pos: 1}, api.OK, 5)
	p.does(api.Command{Kind: api.CApply, From: 4, Pos: 6}, api.ErrMark, 5)
	p.does(api.Command{Kind: api.CApply, From: 6, Pos: 7}, api.ErrMark, 5)
	p.does(api.Command{Kind: api.CApply, From: 5, Pos: most}, api.OK, most)
	p.keys(put("b", "2"), put("d", "g:x n:1"))
	if l, e := p.Rows("s"); len(l) != 1 || l[0].N != 1 || e != api.OK || p.Mark() != most {
		t.Error(l, e)
	}
}

// P15.2
func TestReset(t *testing.T) {
	p := begin(t)
	p.write(api.OK, put("b", "1"), put("c", "1"), put("a", "1"), put("d", ""))
	p.does(api.Command{Kind: api.CView, View: api.View{Name: "s", Kind: api.VSum, Field: "g", Of: "n"}}, api.OK, 0)
	p.does(api.Command{Kind: api.CSub}, api.OK, 1)
	p.does(api.Command{Kind: api.CReset, Pos: 9, Ops: []api.Op{put("e", ""), put("c", "1"), put("b", "2"), put("aa", "3")}}, api.OK, 9)
	p.keys(put("aa", "3"), put("b", "2"), put("c", "1"), put("e", ""))
	p.told(1, 4, api.Event{Pos: 5, Key: "a", Had: true, Old: "1"}, api.Event{Pos: 5, Key: "d", Had: true}, api.Event{Pos: 5, Key: "aa", Has: true, Now: "3"}, api.Event{Pos: 5, Key: "b", Had: true, Old: "1", Has: true, Now: "2"}, api.Event{Pos: 5, Key: "e", Has: true})
	p.does(api.Command{Kind: api.CReset, Pos: 9}, api.OK, 9)
	p.does(api.Command{Kind: api.CReset, Pos: 1, Ops: []api.Op{put("z", "")}}, api.OK, 9)
	p.does(api.Command{Kind: api.CReset, Pos: 10, Ops: []api.Op{put("x", "g:x n:9223372036854775807"), put("y", "g:x n:1")}}, api.ErrOver, 9)
	p.keys(put("aa", "3"), put("b", "2"), put("c", "1"), put("e", ""))
	p.does(api.Command{Kind: api.CApply, From: 9, Pos: 11, Ops: []api.Op{gone("aa")}}, api.OK, 11)
	p.does(api.Command{Kind: api.CReset, Pos: 12}, api.OK, 12)
	p.keys()
	if p.Mark() != 12 {
		t.Error(p.Mark())
	}
}

// P15.2
func TestGroups(t *testing.T) {
	p := begin(t)
	g := func(name string) api.Group {
		for _, x := range p.Groups() {
			if x.Name == name {
				return x
			}
		}
		return api.Group{}
	}
	begun := p.does(api.Command{Kind: api.CGroup, View: api.View{Name: "g"}, Pos: 3, Filter: api.Filter{Kind: api.FPut}}, api.OK, 1)
	if got := p.Apply(p.At()+1, begun); got != (api.Reply{N: 1}) || len(p.Groups()) != 1 || len(p.Subs()) != 1 {
		t.Error("once more:", got)
	}
	if x := g("g"); x.Sub != 1 || x.Term != 0 || x.Next != 1 || !slices.Equal(x.At, []int{2, 2, 2}) || !slices.Equal(x.Owners, []int{0, 0, 0}) || !alike(p.Subs(), []api.Sub{{ID: 1, From: 2, At: 2, Filter: api.Filter{Kind: api.FPut}}}) {
		t.Error(x, p.Subs())
	}
	p.does(api.Command{Kind: api.CGroup, View: api.View{Name: "g"}, Pos: 2}, api.ErrThere, 0)
	if len(p.Subs()) != 1 {
		t.Error("its subscriber goes:", p.Subs())
	}
	p.does(named(api.CJoin, "x"), api.ErrGroup, 0)
	p.does(named(api.CJoin, "g"), api.OK, 1)
	p.does(named(api.CJoin, "g"), api.OK, 2)
	if x := g("g"); !slices.Equal(x.Owners, []int{1, 1, 2}) || x.Term != 2 {
		t.Error(x)
	}
	p.does(api.Command{Kind: api.CLeave, View: api.View{Name: "g"}, Sub: 3}, api.ErrMember, 0)
	at := p.At()
	commit := func(member, term, part, pos int, e api.Errno, low int) {
		t.Helper()
		p.does(api.Command{Kind: api.CCommit, View: api.View{Name: "g"}, Sub: member, From: term, Part: part, Pos: pos}, e, 0)
		if l := p.Subs(); l[0].At != low {
			t.Errorf("at %d: %v, not %d", p.At(), l, low)
		}
	}
	commit(3, 2, 0, at, api.ErrMember, 2)
	commit(1, 1, 0, at, api.ErrTerm, 2)
	commit(1, 2, 3, at, api.ErrArg, 2)
	commit(1, 2, 2, at, api.ErrOwner, 2)
	commit(1, 2, 0, 1, api.ErrBack, 2)
	commit(1, 2, 0, at, api.OK, 2)
	commit(1, 2, 1, at-1, api.OK, 2)
	commit(2, 2, 2, at+1, api.OK, at-1)
	commit(1, 2, 1, most, api.OK, at)
	commit(1, 2, 0, most, api.OK, at+1)
	commit(2, 2, 2, most, api.OK, p.At()) // not above the top, which is the index ahead of it
	if x := g("g"); !slices.Equal(x.At, []int{most, most, most}) {
		t.Error(x)
	}
	p.does(api.Command{Kind: api.CAck, Sub: 1, Pos: p.At()}, api.OK, 0)
	p.does(api.Command{Kind: api.CLeave, View: api.View{Name: "g"}, Sub: 1}, api.OK, 0)
	if x := g("g"); !slices.Equal(x.Owners, []int{2, 2, 2}) || !slices.Equal(x.Members, []int{2}) || x.Term != 3 {
		t.Error(x)
	}
	p.does(named(api.CGone, "x"), api.ErrGroup, 0)
	p.does(named(api.CGone, "g"), api.OK, 0)
	p.does(named(api.CGone, "g"), api.ErrGroup, 0)
	if len(p.Groups()) != 0 || len(p.Subs()) != 0 {
		t.Error(p.Groups(), p.Subs())
	}
}

// P15.2: groups and subscribers that are full, or gone.
func TestGroupsWithoutRoom(t *testing.T) {
	p := begin(t)
	group := func(name string, e api.Errno, n int) {
		t.Helper()
		p.does(api.Command{Kind: api.CGroup, View: api.View{Name: name}, Pos: 1}, e, n)
	}
	group("a", api.OK, 1)
	group("b", api.OK, 2)
	group("c", api.OK, 3)
	group("d", api.ErrFull, 0) // three groups
	if l := p.Subs(); len(l) != 3 {
		t.Error(l)
	}
	p.does(api.Command{Kind: api.CSub}, api.OK, 5) // the number 4 was a subscriber's that did not stay
	group("a", api.ErrFull, 0)                     // the subscribers are asked first
	p.does(named(api.CGone, "a"), api.OK, 0)
	group("d", api.OK, 6)
	p.does(named(api.CJoin, "b"), api.OK, 1)
	p.does(api.Command{Kind: api.CUnsub, Sub: 2}, api.OK, 0)
	p.does(api.Command{Kind: api.CCommit, View: api.View{Name: "b"}, Sub: 1, From: 1, Pos: 9}, api.OK, 0) // that its subscriber is none says nothing
	if l, to, e := p.Poll("b", 0, 9, 1); len(l) != 0 || to != 0 || e != api.ErrFeed {
		t.Error(l, to, e)
	}
	again := p.does(named(api.CGone, "b"), api.OK, 0) // its subscriber is none already
	if got := p.Apply(p.At()+1, again); got != (api.Reply{}) {
		t.Error("once more:", got)
	}
	p.does(named(api.CGone, "b"), api.ErrGroup, 0)
	if l := p.Groups(); len(l) != 2 || l[0].Name != "c" || l[1].Name != "d" {
		t.Error(l)
	}
}

// P15.2: a group ends, and its subscriber with it, if there is one: whether that one reads, was let go, was dropped, or never was.
func TestGroupsEndWhateverTheirSubscriberIs(t *testing.T) {
	letGo := func(p *play) {
		for i := range 6 {
			l := many(6)
			for j := range l {
				l[j].Value = string(rune('a' + i))
			}
			p.write(api.OK, l...)
		}
		if l := p.Subs(); len(l) != 2 || !l[0].Gone {
			t.Error("it should be let go:", l)
		}
	}
	stranger := func(p *play) { // one whose group has a subscriber that the feed does not have
		x := group.New()
		x.Add("g", 2, 7, 1)
		m, e := Load(modelImage(p.At(), p.Mark(), p.Keys("", ""), p.Views(), p.feed.Put(nil), p.seats.Put(nil), x.Put(nil)))
		if e != api.OK {
			t.Fatal(e)
		}
		p.Machine = m
	}
	for name, x := range map[string]struct {
		before func(*play)
		left   []int // subscribers
	}{
		"reads":    {func(p *play) { p.write(api.OK, put("a", "1")) }, []int{2}},
		"let go":   {letGo, []int{2}},
		"dropped":  {func(p *play) { p.does(api.Command{Kind: api.CUnsub, Sub: 1}, api.OK, 0) }, []int{2}},
		"stranger": {stranger, []int{1, 2}},
		"all gone": {func(p *play) {
			p.does(api.Command{Kind: api.CUnsub, Sub: 2}, api.OK, 0)
			p.does(api.Command{Kind: api.CUnsub, Sub: 1}, api.OK, 0)
		}, nil},
	} {
		p := begin(t)
		p.does(api.Command{Kind: api.CGroup, View: api.View{Name: "g"}, Pos: 2}, api.OK, 1)
		p.does(named(api.CJoin, "g"), api.OK, 1)
		p.does(api.Command{Kind: api.CSub}, api.OK, 2)
		x.before(p)
		p.does(named(api.CGone, "g"), api.OK, 0)
		var left []int
		for _, s := range p.Subs() {
			left = append(left, s.ID)
		}
		if len(p.Groups()) != 0 || !slices.Equal(left, x.left) {
			t.Error(name, p.Groups(), left)
		}
		p.does(named(api.CGone, "g"), api.ErrGroup, 0)
	}
}

// P15.3
func TestPoll(t *testing.T) {
	p := begin(t)
	p.does(api.Command{Kind: api.CGroup, View: api.View{Name: "g"}, Pos: 3, Filter: api.Filter{Kind: api.FPut}}, api.OK, 1)
	from := p.At()
	p.write(api.OK, many(6)...)
	p.write(api.OK, gone("ka"))
	p.write(api.OK, many(12)[6:]...)
	all, to, e := p.Read(1, from, 100)
	if len(all) != 12 || to != from+3 || e != api.OK {
		t.Fatal(all, to, e)
	}
	n := 0
	for part := range 3 {
		want := group.Pass(3, part, all...)
		l, to, e := p.Poll("g", part, from, 100)
		if !slices.Equal(l, want) || len(l) == 0 || to != from+3 || e != api.OK {
			t.Error(part, l, to, e)
		}
		n += len(l)
		l, to, e = p.Poll("g", part, from, 0) // the first place is read whole, however few are asked for
		if !slices.Equal(l, group.Pass(3, part, all[:6]...)) || to != from+1 || e != api.OK {
			t.Error(part, l, to, e)
		}
	}
	if n != 12 {
		t.Error(n)
	}
	p.does(api.Command{Kind: api.CAck, Sub: 1, Pos: from + 1}, api.OK, 0)
	for i, c := range []struct {
		name        string
		part, after int
		want        api.Errno
	}{{"x", 0, from + 1, api.ErrGroup}, {"", 9, -1, api.ErrGroup}, {"g", 3, from + 1, api.ErrArg}, {"g", -1, from + 1, api.ErrArg}, {"g", math.MaxInt, -1, api.ErrArg}, {"g", math.MinInt, 0, api.ErrArg}, {"g", 2, from, api.ErrBack}, {"g", 0, p.At() + 1, api.ErrRange}} {
		if l, to, e := p.Poll(c.name, c.part, c.after, 9); len(l) != 0 || to != 0 || e != c.want {
			t.Errorf("%d: %v %d %d", i, l, to, e)
		}
	}
}

// P15.3
func TestMachineOfNobody(t *testing.T) {
	none := modelPut(api.Command{})
	for _, m := range []*Machine{nil, {}} {
		rows, e := m.Rows("a")
		l, to, e2 := m.Read(1, 0, 1)
		l3, to3, e3 := m.Poll("g", 0, 0, 1)
		if m.At() != 0 || m.Mark() != 0 || len(m.Keys("", "")) != 0 || len(m.Views()) != 0 || len(m.Subs()) != 0 || len(m.Seats()) != 0 || len(m.Groups()) != 0 || len(m.Image()) != 0 || len(rows) != 0 || len(l) != 0 || to != 0 || len(l3) != 0 || to3 != 0 {
			t.Error("zero answers")
		}
		if e != api.ErrNil || e2 != api.ErrNil || e3 != api.ErrNil {
			t.Error(e, e2, e3)
		}
		for _, index := range []int{0, 1, -1} {
			if got := m.Apply(index, none); got != (api.Reply{Err: api.ErrNil}) {
				t.Error(got)
			}
		}
	}
}

// P15.3
func TestNewMachine(t *testing.T) {
	m := New()
	if e := same(m, newModel()); e != nil {
		t.Fatal(e)
	}
	if string(m.Image()) != "\x00\x00\x00\x00\x01\x01\x00\x00\x00\x00\x00\x00" {
		t.Errorf("%x", m.Image())
	}
	if _, e := m.Rows(""); e != api.ErrNone {
		t.Error(e)
	}
}

// P15.3: what is the image of a machine, and what is not.
func TestImagesThatCanBe(t *testing.T) {
	feedAt := func(pos int) []byte {
		f := feed.New()
		f.Note(pos)
		return f.Put(nil)
	}
	seats, groups := sess.New().Put(nil), group.New().Put(nil)
	index := api.View{Name: "i", Kind: api.VIndex, Field: "g"}
	sum := api.View{Name: "s", Kind: api.VSum, Field: "g", Of: "n"}
	view := func(name string) api.View {
		w := index
		w.Name = name
		return w
	}
	const big = "g:x n:9223372036854775807"
	x := group.New()
	x.Add("g", 3, 7, 9)
	x.Join("g")
	s := sess.New()
	s.Open()
	image := func(at, mark int, keys []api.Op, l ...api.View) []byte {
		return modelImage(at, mark, keys, l, feedAt(at), seats, groups)
	}
	for i, c := range []struct {
		b  []byte
		ok bool
	}{
		{image(0, 0, nil), true}, {image(5, 9, many(3), index, sum), true}, {image(most, most, nil), true}, {modelImage(most+1, 0, nil, nil, feedAt(most), seats, groups), false}, {image(5, most+1, nil), false}, {modelImage(5, math.MaxInt, nil, nil, feedAt(5), seats, groups), false},
		{image(5, 0, many(24)), true}, {image(5, 0, many(25)), false}, {image(5, 0, []api.Op{put("b", ""), put("a", "")}), false}, {image(5, 0, []api.Op{put("a", ""), put("a", "")}), false}, {image(5, 0, []api.Op{gone("a")}), false}, {image(5, 0, []api.Op{put("", "")}), false}, {image(5, 0, []api.Op{put("a", "\n")}), false}, {image(5, 0, []api.Op{put("a", "1"), put("b", "1")}), true},
		{image(5, 0, nil, view("a"), view("b"), view("c"), view("d")), true}, {image(5, 0, nil, view("a"), view("b"), view("c"), view("d"), view("e")), false}, {image(5, 0, nil, index, index), false}, {image(5, 0, nil, view("A")), false}, {image(5, 0, nil, api.View{Name: "i", Kind: 4, Field: "g"}), false}, {image(5, 0, []api.Op{put("a", big), put("b", big)}, sum), false}, {image(5, 0, []api.Op{put("a", big), put("b", big)}, index), true}, {image(5, 0, []api.Op{put("a", big), put("b", "g:y n:1")}, sum), true},
		{modelImage(5, 0, nil, nil, feedAt(4), seats, groups), false}, {modelImage(5, 0, nil, nil, feedAt(6), seats, groups), false}, {modelImage(5, 0, nil, nil, feed.New().Put(nil), seats, groups), false}, {modelImage(5, 0, nil, nil, []byte{0, 1, 1, 5, 0, 0}, seats, groups), false},
		{modelImage(5, 0, nil, nil, feedAt(5), s.Put(nil), x.Put(nil)), true}, {modelImage(5, 0, nil, nil, feedAt(5), wire.Numbers(nil, most+1, 0), groups), false}, {modelImage(5, 0, nil, nil, feedAt(5), wire.Numbers(nil, 0, 1, 1, 0, 0, 0), groups), false}, {modelImage(5, 0, nil, nil, feedAt(5), seats, []byte{1, 4}), false}, {modelImage(5, 0, nil, nil, feedAt(5), seats, nil), false},
		{append(image(0, 0, nil), 0), false}, {nil, false}, {[]byte{9}, false}, {make([]byte, 100), false},
	} {
		m, e := Load(c.b)
		if c.ok != (e == api.OK) || !c.ok && (e != api.ErrCommand || m != nil) {
			t.Errorf("%d: %d", i, e)
			continue
		}
		if !c.ok {
			continue
		}
		if !bytes.Equal(m.Image(), c.b) {
			t.Errorf("%d: %x, not %x", i, m.Image(), c.b)
		}
		for n := range c.b {
			if m, e := Load(c.b[:n]); m != nil || e != api.ErrCommand {
				t.Errorf("%d: cut off at %d", i, n)
			}
		}
	}
}

// Two machines know nothing of one another, and nobody changes one by what it was handed or what it told.
func TestMemory(t *testing.T) {
	p := begin(t)
	p.does(api.Command{Kind: api.CGroup, View: api.View{Name: "g"}, Pos: 3, Filter: api.Filter{Kind: api.FNot, Kids: []api.Filter{{Kind: api.FPrefix, Text: "z"}}}}, api.OK, 1)
	p.does(api.Command{Kind: api.CView, View: api.View{Name: "i", Kind: api.VIndex, Field: "g"}}, api.OK, 0)
	p.does(named(api.CJoin, "g"), api.OK, 1)
	data := p.does(api.Command{Kind: api.CWrite, Ops: []api.Op{put("a", "g:x"), put("b", "g:x")}}, api.OK, 0)
	image := p.Image()
	clear(data)
	keys, l, subs, seats, groups := p.Keys("", ""), p.Views(), p.Subs(), p.Seats(), p.Groups()
	rows, _ := p.Rows("i")
	events, _, _ := p.Read(1, 2, 9)
	polled, _, _ := p.Poll("g", 0, 2, 9)
	clear(rows[0].Keys[:cap(rows[0].Keys)])
	clear(rows[:cap(rows)])
	subs[0].Filter.Kids[0].Text = "a"
	clear(groups[0].Owners[:cap(groups[0].Owners)])
	clear(groups[0].At[:cap(groups[0].At)])
	clear(groups[0].Members[:cap(groups[0].Members)])
	clear(keys[:cap(keys)])
	clear(l[:cap(l)])
	clear(subs[:cap(subs)])
	clear(seats[:cap(seats)])
	clear(groups[:cap(groups)])
	clear(events[:cap(events)])
	clear(polled[:cap(polled)])
	again := p.Image()
	if !bytes.Equal(again, image) {
		t.Fatalf("%x, not %x", again, image)
	}
	other, e := Load(again)
	if e != api.OK {
		t.Fatal(e)
	}
	clear(again[:cap(again)])
	o := &play{other, t, p.seq}
	o.write(api.OK, gone("a"))
	o.does(named(api.CGone, "g"), api.OK, 0)
	o.does(named(api.CDrop, "i"), api.OK, 0)
	o.does(api.Command{Kind: api.CReset, Pos: 9}, api.OK, 9)
	o.does(api.Command{Kind: api.COpen}, api.OK, 2)
	if !bytes.Equal(p.Image(), image) {
		t.Error("one that was loaded changed the one that it was")
	}
	if rows, e := p.Rows("i"); e != api.OK || !alike(rows, []api.Row{{Text: "x", Keys: []string{"a", "b"}, N: 2}}) {
		t.Error(rows, e)
	}
}
