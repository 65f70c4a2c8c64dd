package sess

import (
	"bytes"
	"math"
	"math/rand"
	"slices"
	"testing"

	"tidemark/api"
	"tidemark/wire"
)

const most = api.MaxIndex

// read is the table of a model's bytes, which may be.
func read(t *testing.T, begun int, l ...api.Seat) *Table {
	t.Helper()
	x, ok := Get(wire.Read(modelPut(begun, l...)))
	if !ok {
		t.Fatalf("%v may be", l)
	}
	return x
}

// is fails unless a table has just these sessions, and so many were ever begun.
func is(t *testing.T, x *Table, begun int, want ...api.Seat) {
	t.Helper()
	if !slices.Equal(x.List(), want) || !bytes.Equal(x.Put(nil), modelPut(begun, want...)) {
		t.Errorf("%v, %x, not %v", x.List(), x.Put(nil), want)
	}
}

// asks fails unless a number is answered so.
func asks(t *testing.T, x *Table, session, seq int, want api.Reply, wantFresh bool, wantErr api.Errno) {
	t.Helper()
	if r, fresh, e := x.Ask(session, seq); r != want || fresh != wantFresh || e != wantErr {
		t.Errorf("%d of %d: %v %v %d, not %v %v %d", seq, session, r, fresh, e, want, wantFresh, wantErr)
	}
}

// The document's example.
func TestExample(t *testing.T) {
	x := New()
	is(t, x, 0)
	if n, e := x.Open(); n != 1 || e != api.OK {
		t.Fatal(n, e)
	}
	is(t, x, 1, api.Seat{Session: 1})
	asks(t, x, 1, 1, api.Reply{}, true, api.OK)
	if e := x.Keep(1, 1, api.Reply{N: 5}); e != api.OK {
		t.Fatal(e)
	}
	asks(t, x, 1, 1, api.Reply{N: 5}, false, api.OK)
	asks(t, x, 1, 3, api.Reply{}, false, api.ErrGap)
	asks(t, x, 1, 0, api.Reply{}, false, api.ErrOld)
	asks(t, x, 2, 1, api.Reply{}, false, api.ErrSession)
	is(t, x, 1, api.Seat{Session: 1, Seq: 1, Reply: api.Reply{N: 5}})
}

// P14.1, P14.6
func TestOpenAndClose(t *testing.T) {
	x := New()
	for i := range 8 {
		if n, e := x.Open(); n != i+1 || e != api.OK {
			t.Fatal(n, e)
		}
	}
	for range 2 {
		if n, e := x.Open(); n != 0 || e != api.ErrFull {
			t.Error(n, e)
		}
	}
	for i, c := range []struct {
		session int
		want    api.Errno
	}{{0, api.ErrSession}, {9, api.ErrSession}, {-1, api.ErrSession}, {math.MaxInt, api.ErrSession}, {math.MinInt, api.ErrSession}, {8, api.OK}, {8, api.ErrSession}, {3, api.OK}, {3, api.ErrSession}} {
		if e := x.Close(c.session); e != c.want {
			t.Errorf("%d: %d", i, e)
		}
	}
	is(t, x, 8, api.Seat{Session: 1}, api.Seat{Session: 2}, api.Seat{Session: 4}, api.Seat{Session: 5}, api.Seat{Session: 6}, api.Seat{Session: 7})
	if n, e := x.Open(); n != 9 || e != api.OK {
		t.Error("numbers go on:", n, e)
	}
	asks(t, x, 3, 1, api.Reply{}, false, api.ErrSession)
	asks(t, x, 9, 1, api.Reply{}, true, api.OK)
}

// P14.1
func TestLastNumberOfASession(t *testing.T) {
	x := read(t, most-1)
	if n, e := x.Open(); n != most || e != api.OK {
		t.Error(n, e)
	}
	if n, e := x.Open(); n != 0 || e != api.ErrRange {
		t.Error(n, e)
	}
	is(t, x, most, api.Seat{Session: most})
	var l []api.Seat
	for i := range 8 {
		l = append(l, api.Seat{Session: i + 1})
	}
	x = read(t, most, l...)
	if n, e := x.Open(); n != 0 || e != api.ErrFull {
		t.Error(n, e)
	}
}

// P14.2
func TestAskAndKeep(t *testing.T) {
	old := api.Reply{Err: api.ErrCond, N: 3}
	seats := []api.Seat{{Session: 2}, {Session: 5, Seq: 7, Reply: old}, {Session: 6, Seq: 1}}
	for i, c := range []struct {
		session, seq int
		r            api.Reply
		fresh        bool
		ask, keep    api.Errno
	}{
		{1, 1, api.Reply{}, false, api.ErrSession, api.ErrSession}, {0, 0, api.Reply{}, false, api.ErrSession, api.ErrSession}, {7, 1, api.Reply{}, false, api.ErrSession, api.ErrSession}, {math.MinInt, math.MaxInt, api.Reply{}, false, api.ErrSession, api.ErrSession},
		{2, 0, api.Reply{}, false, api.ErrOld, api.ErrOld}, {2, -1, api.Reply{}, false, api.ErrOld, api.ErrOld}, {2, 1, api.Reply{}, true, api.OK, api.OK}, {2, 2, api.Reply{}, false, api.ErrGap, api.ErrGap}, {2, math.MaxInt, api.Reply{}, false, api.ErrGap, api.ErrGap}, {2, math.MinInt, api.Reply{}, false, api.ErrOld, api.ErrOld},
		{5, 0, api.Reply{}, false, api.ErrOld, api.ErrOld}, {5, 6, api.Reply{}, false, api.ErrOld, api.ErrOld}, {5, 7, old, false, api.OK, api.ErrOld}, {5, 8, api.Reply{}, true, api.OK, api.OK}, {5, 9, api.Reply{}, false, api.ErrGap, api.ErrGap}, {5, math.MinInt, api.Reply{}, false, api.ErrOld, api.ErrOld}, {5, math.MaxInt, api.Reply{}, false, api.ErrGap, api.ErrGap},
		{6, 1, api.Reply{}, false, api.OK, api.ErrOld}, {6, 2, api.Reply{}, true, api.OK, api.OK},
	} {
		for _, r := range []api.Reply{{}, {Err: 1000, N: most}, {N: 4}} {
			x := read(t, 6, seats...)
			asks(t, x, c.session, c.seq, c.r, c.fresh, c.ask)
			is(t, x, 6, seats...)
			if e := x.Keep(c.session, c.seq, r); e != c.keep {
				t.Errorf("%d: %d", i, e)
			}
			if c.keep != api.OK {
				is(t, x, 6, seats...)
				continue
			}
			asks(t, x, c.session, c.seq, r, false, api.OK)
			asks(t, x, c.session, c.seq-1, api.Reply{}, false, api.ErrOld)
			asks(t, x, c.session, c.seq+1, api.Reply{}, true, api.OK)
			want := slices.Clone(seats)
			for i := range want {
				if want[i].Session == c.session {
					want[i].Seq, want[i].Reply = c.seq, r
				}
			}
			is(t, x, 6, want...)
		}
	}
}

// P14.2, P14.3: a reply is told as it was kept; as bytes a number below 0 is 0.
func TestRepliesBelowNought(t *testing.T) {
	x := New()
	x.Open()
	r := api.Reply{Err: -7, N: math.MinInt}
	if e := x.Keep(1, 1, r); e != api.OK {
		t.Fatal(e)
	}
	asks(t, x, 1, 1, r, false, api.OK)
	if b := x.Put(nil); !bytes.Equal(b, modelPut(1, api.Seat{Session: 1, Seq: 1})) {
		t.Errorf("%x", b)
	}
}

// P14.1 to P14.6
func TestLivesAreTheModels(t *testing.T) {
	r := rand.New(rand.NewSource(1))
	counts := map[api.Errno]int{}
	for range 400 {
		x, m := New(), newModel()
		given := map[int]int{}
		for range 150 {
			session := m.begun - r.Intn(10) + 1
			seq := len(m.kept[session]) + r.Intn(5) - 2
			var n, wn int
			var e, we api.Errno
			before := x.List()
			switch r.Intn(10) {
			case 0, 1:
				n, e = x.Open()
				wn, we = m.open()
				if given[n]++; e == api.OK && given[n] > 1 {
					t.Fatal("once more:", n)
				}
			case 2:
				if r.Intn(3) == 0 {
					e, we = x.Close(session), m.close(session)
				}
			case 3:
				next, ok := Get(wire.Read(append(x.Put(nil), 7)))
				if !ok {
					t.Fatalf("there and back: %v", x.List())
				}
				x = next
			default:
				reply := api.Reply{Err: api.Errno(r.Intn(3)), N: r.Intn(300)}
				e, we = x.Keep(session, seq, reply), m.keep(session, seq, reply)
			}
			counts[e]++
			if n != wn || e != we || !slices.Equal(x.List(), m.list()) || e != api.OK && !slices.Equal(x.List(), before) {
				t.Fatalf("%d %d, not %d %d: %v, not %v", n, e, wn, we, x.List(), m.list())
			}
			fresh := 0
			for seq := range 30 {
				r, yes, e := x.Ask(session, seq-2)
				wr, wyes, we := m.ask(session, seq-2)
				if r != wr || yes != wyes || e != we {
					t.Fatalf("%d of %d: %v %v %d, not %v %v %d", seq-2, session, r, yes, e, wr, wyes, we)
				}
				if yes {
					fresh++
				}
			}
			if fresh > 1 || fresh == 0 && m.kept[session] != nil && len(m.kept[session]) < 27 {
				t.Fatal("just one is fresh:", fresh)
			}
			if b := x.Put([]byte("ab")); string(b[:2]) != "ab" || !bytes.Equal(b[2:], modelPut(m.begun, m.list()...)) {
				t.Fatalf("%x", b)
			}
		}
	}
	for _, e := range []api.Errno{api.OK, api.ErrFull, api.ErrSession, api.ErrOld, api.ErrGap} {
		if counts[e] < 100 {
			t.Error(counts)
		}
	}
}

// P14.3
func TestTableOfNobody(t *testing.T) {
	for _, x := range []*Table{nil, {}} {
		n, e := x.Open()
		if n != 0 || e != api.ErrNil || x.Close(0) != api.ErrNil || x.Keep(1, 1, api.Reply{}) != api.ErrNil || len(x.List()) != 0 || len(x.Put(nil)) != 0 {
			t.Error(n, e)
		}
		asks(t, x, 0, 0, api.Reply{}, false, api.ErrNil)
		asks(t, x, 1, 1, api.Reply{}, false, api.ErrNil)
		room := []byte("abcd")
		b := x.Put(room[:2])
		if string(b) != "ab" {
			t.Errorf("%q", b)
		}
		clear(b[:cap(b)])
		if string(room) != "abcd" {
			t.Error("Put hands out what came in")
		}
	}
	for _, r := range []*wire.Reader{nil, {}, wire.Read(nil), wire.Read([]byte{9})} {
		if x, ok := Get(r); x != nil || ok {
			t.Error("of no reader, or of nothing")
		}
	}
	r := wire.Read([]byte{9, 0, 0})
	r.Number()
	if x, ok := Get(r); x != nil || ok {
		t.Error("behind an error")
	}
}

// P14.3
func TestTablesThatCanBe(t *testing.T) {
	seats := func(l ...int) []api.Seat {
		var out []api.Seat
		for _, n := range l {
			out = append(out, api.Seat{Session: n})
		}
		return out
	}
	with := func(seq int, e api.Errno, n int) []api.Seat {
		return []api.Seat{{Session: 1, Seq: seq, Reply: api.Reply{Err: e, N: n}}}
	}
	for i, c := range []struct {
		begun int
		l     []api.Seat
		ok    bool
	}{
		{0, nil, true}, {most, nil, true}, {most + 1, nil, false}, {math.MaxInt, nil, false}, {1, seats(1), true}, {0, seats(1), false}, {1, seats(0), false}, {5, seats(6), false}, {5, seats(5), true}, {most, seats(most), true}, {most, seats(most + 1), false},
		{9, seats(1, 3, 9), true}, {9, seats(3, 1), false}, {9, seats(3, 3), false}, {9, seats(1, 2, 3, 4, 5, 6, 7, 9), true}, {9, seats(1, 2, 3, 4, 5, 6, 7, 8, 9), false},
		{1, with(most, 0, 0), true}, {1, with(most+1, 0, 0), false}, {1, with(1, 1000, most), true}, {1, with(1, 1001, 0), false}, {1, with(1, 0, most+1), false}, {1, with(0, 5, 5), true}, {1, with(1, math.MaxInt, 0), false},
	} {
		b := modelPut(c.begun, c.l...)
		r := wire.Read(append(slices.Clone(b), 5))
		x, ok := Get(r)
		if ok != c.ok || (x != nil) != c.ok {
			t.Errorf("%d: %v", i, ok)
			continue
		}
		if ok {
			is(t, x, c.begun, c.l...)
		}
		if ok && r.Left() != 1 {
			t.Errorf("%d: %d left", i, r.Left())
		}
		for n := range b {
			if x, ok := Get(wire.Read(b[:n])); x != nil || ok {
				t.Errorf("%d: cut off at %d", i, n)
			}
		}
	}
}

// What comes out is new, and what Put is handed is not changed.
func TestMemory(t *testing.T) {
	x := New()
	x.Open()
	x.Open()
	room := []byte("abcdefghijklmnopqrstuvwxyz")
	for range 2 {
		is(t, x, 2, api.Seat{Session: 1}, api.Seat{Session: 2})
		l, b := x.List(), x.Put(room[:2])
		clear(l[:cap(l)])
		clear(b[:cap(b)])
	}
	other := read(t, 2, x.List()...)
	other.Close(1)
	other.Keep(2, 1, api.Reply{N: 9})
	is(t, x, 2, api.Seat{Session: 1}, api.Seat{Session: 2})
	if string(room) != "abcdefghijklmnopqrstuvwxyz" {
		t.Error(string(room))
	}
}
