package feed

import (
	"bytes"
	"fmt"
	"math"
	"math/rand"
	"slices"
	"strings"
	"testing"

	"tidemark/api"
	"tidemark/filter"
	"tidemark/wire"
)

// put is that a key has something now.
func put(key string) api.Event { return api.Event{Key: key, Has: true, Now: "n:1"} }

// at is events at a place.
func at(pos int, l ...api.Event) []api.Event {
	l = slices.Clone(l)
	for i := range l {
		l[i].Pos = pos
	}
	return l
}

// many is so many events.
func many(n int) []api.Event {
	var l []api.Event
	for i := range n {
		l = append(l, put(fmt.Sprint("k", i)))
	}
	return l
}

// with is a feed with so many subscribers of all.
func with(t *testing.T, n int) *Feed {
	t.Helper()
	f := New()
	for i := range n {
		if id, e := f.Add(api.Filter{}); id != i+1 || e != api.OK {
			t.Fatal(id, e)
		}
	}
	return f
}

// reads fails unless a read tells just that.
func reads(t *testing.T, f *Feed, id, after, most int, to int, want ...api.Event) {
	t.Helper()
	if l, got, e := f.Read(id, after, most); !slices.Equal(l, want) || got != to || e != api.OK {
		t.Errorf("%d behind %d, %d: %v %d %d, not %v %d", id, after, most, l, got, e, want, to)
	}
}

// P12.1
func TestNewFeedIsAtZero(t *testing.T) {
	f := New()
	if f == nil || f.Top() != 0 || len(f.Kept()) != 0 || len(f.List()) != 0 {
		t.Fatal("a new one")
	}
	if string(f.Put(nil)) != "\x01\x01\x00\x00\x00" {
		t.Errorf("%x", f.Put(nil))
	}
}

// The document's example.
func TestExample(t *testing.T) {
	f := with(t, 1)
	a, b, c := put("a"), put("b"), put("c")
	if f.Note(5, a, b) != api.OK || f.Note(6) != api.OK || f.Note(7, c) != api.OK {
		t.Fatal("Note")
	}
	reads(t, f, 1, 0, 1, 5, at(5, a, b)...)
	reads(t, f, 1, 5, 9, 7, at(7, c)...)
	if f.Ack(1, 6) != api.OK || !slices.Equal(f.Kept(), at(7, c)) || f.Ack(1, 5) != api.ErrBack {
		t.Error(f.Kept())
	}
}

// P12.1
func TestNoteOfPlaces(t *testing.T) {
	f := with(t, 1)
	for i, c := range []struct {
		pos  int
		want api.Errno
	}{
		{0, api.ErrBack}, {-1, api.ErrBack}, {math.MinInt, api.ErrBack}, {1, api.OK}, {1, api.ErrBack}, {api.MaxIndex + 1, api.ErrRange}, {math.MaxInt, api.ErrRange}, {7, api.OK}, {6, api.ErrBack}, {7, api.ErrBack}, {api.MaxIndex, api.OK}, {api.MaxIndex, api.ErrBack}, {api.MaxIndex + 1, api.ErrRange},
	} {
		top, kept := f.Top(), f.Kept()
		e := f.Note(c.pos, api.Event{Pos: 3, Key: "a"})
		if e != c.want || e != api.OK && (f.Top() != top || !slices.Equal(f.Kept(), kept)) || e == api.OK && f.Top() != c.pos {
			t.Errorf("%d: %d, top %d", i, e, f.Top())
		}
	}
	want := []api.Event{{Pos: 1, Key: "a"}, {Pos: 7, Key: "a"}, {Pos: api.MaxIndex, Key: "a"}}
	if !slices.Equal(f.Kept(), want) {
		t.Error(f.Kept())
	}
}

// P12.1: without one who wants it nothing is kept.
func TestWhatNobodyWants(t *testing.T) {
	f := New()
	if f.Note(1, many(100)...) != api.OK || f.Top() != 1 || len(f.Kept()) != 0 {
		t.Error(f.Kept())
	}
	id, e := f.Add(api.Filter{Kind: api.FOr}) // what does not pass is kept, too
	if id != 1 || e != api.OK || f.Note(2, put("a")) != api.OK || len(f.Kept()) != 1 {
		t.Error(id, e, f.Kept())
	}
	if f.Drop(1) != api.OK || len(f.Kept()) != 0 || f.Note(3, put("a")) != api.OK || len(f.Kept()) != 0 {
		t.Error(f.Kept())
	}
	if id, e := f.Add(api.Filter{}); id != 2 || e != api.OK || !alike(f.List(), []api.Sub{{ID: 2, From: 3, At: 3}}) {
		t.Error(id, e, f.List())
	}
}

// P12.1, P12.7
func TestWhoIsLetGo(t *testing.T) {
	f := with(t, 1)
	f.Note(1, many(10)...)
	for range 2 {
		f.Add(api.Filter{Kind: api.FPut})
	}
	f.Note(2, many(22)...)
	if len(f.Kept()) != 32 || f.List()[0].Gone {
		t.Fatal("32 are kept")
	}
	f.Note(3)
	if len(f.Kept()) != 32 {
		t.Fatal("a place without events")
	}
	f.Note(4, put("x"))
	want := []api.Sub{{ID: 1, Gone: true}, {ID: 2, From: 1, At: 1, Filter: api.Filter{Kind: api.FPut}}, {ID: 3, From: 1, At: 1, Filter: api.Filter{Kind: api.FPut}}}
	if !alike(f.List(), want) || len(f.Kept()) != 23 || f.Kept()[0].Pos != 2 {
		t.Fatal(f.List(), f.Kept())
	}
	f.Note(5, many(10)...) // of two that are alike the first one; behind that it is still too much, so the other one, too
	want[1].Gone, want[2].Gone = true, true
	if !alike(f.List(), want) || len(f.Kept()) != 0 {
		t.Fatal(f.List(), f.Kept())
	}
	for _, id := range []int{1, 2, 3} {
		l, to, e := f.Read(id, 0, 9)
		if f.Ack(id, 5) != api.ErrEvicted || f.Ack(id, -1) != api.ErrEvicted || f.Ack(id, 99) != api.ErrEvicted || len(l) != 0 || to != 0 || e != api.ErrEvicted {
			t.Error(id, l, to, e)
		}
	}
	if id, e := f.Add(api.Filter{}); id != 4 || e != api.OK {
		t.Error(id, e)
	}
	if id, e := f.Add(api.Filter{}); id != 0 || e != api.ErrFull {
		t.Error("the gone count, too:", id, e)
	}
}

// P12.1: the first of those that are furthest behind, and no more of them than it takes.
func TestNoMoreAreLetGo(t *testing.T) {
	f := with(t, 3)
	f.Note(1, many(20)...)
	f.Ack(1, 1)
	f.Note(2, many(12)...)
	f.Ack(3, 1)
	f.Note(3, put("x"))
	gone := func() string {
		s := ""
		for _, x := range f.List() {
			if x.Gone {
				s += fmt.Sprint(x.ID)
			}
		}
		return s
	}
	if gone() != "2" || len(f.Kept()) != 13 {
		t.Fatal(gone(), f.Kept())
	}
	f.Note(4, many(20)...)
	if gone() != "123" || len(f.Kept()) != 0 {
		t.Fatal(gone(), f.Kept())
	}
	f = with(t, 2)
	if f.Note(1, many(33)...) != api.OK || gone() != "12" || len(f.Kept()) != 0 || f.Top() != 1 {
		t.Fatal(gone(), f.Kept())
	}
}

// P12.2
func TestAddOfFilters(t *testing.T) {
	f := New()
	f.Note(9)
	deep := api.Filter{}
	for range 6 {
		deep = api.Filter{Kind: api.FNot, Kids: []api.Filter{deep}}
	}
	for i, c := range []struct {
		q    api.Filter
		id   int
		want api.Errno
	}{
		{api.Filter{Kind: api.FNot}, 0, api.ErrFilter}, {deep, 0, api.ErrDeep}, {deep.Kids[0], 1, api.OK}, {api.Filter{Kind: -1}, 0, api.ErrFilter}, {api.Filter{Kind: api.FPrefix, Text: "a"}, 2, api.OK}, {api.Filter{}, 3, api.OK}, {api.Filter{Kind: api.FAnd}, 4, api.OK}, {api.Filter{}, 0, api.ErrFull}, {deep, 0, api.ErrDeep},
	} {
		before := f.List()
		id, e := f.Add(c.q)
		if id != c.id || e != c.want {
			t.Errorf("%d: %d %d", i, id, e)
		}
		if e == api.OK {
			before = append(before, api.Sub{ID: id, From: 9, At: 9, Filter: c.q})
		}
		if !alike(f.List(), before) {
			t.Errorf("%d: %v", i, f.List())
		}
	}
	for i, c := range []struct {
		id   int
		want api.Errno
	}{{0, api.ErrFeed}, {5, api.ErrFeed}, {-1, api.ErrFeed}, {2, api.OK}, {2, api.ErrFeed}, {4, api.OK}} {
		if e := f.Drop(c.id); e != c.want {
			t.Errorf("%d: Drop: %d", i, e)
		}
	}
	if id, e := f.Add(api.Filter{}); id != 5 || e != api.OK || len(f.List()) != 3 {
		t.Error("numbers go on:", id, e)
	}
}

// P12.2
func TestLastNumberOfASubscriber(t *testing.T) {
	f, ok := Get(wire.Read(modelPut(api.MaxIndex-1, 5, nil, nil)))
	if !ok {
		t.Fatal("it may be")
	}
	if id, e := f.Add(api.Filter{}); id != api.MaxIndex-1 || e != api.OK {
		t.Error(id, e)
	}
	if id, e := f.Add(api.Filter{Kind: 9}); id != 0 || e != api.ErrFilter {
		t.Error(id, e)
	}
	if id, e := f.Add(api.Filter{}); id != 0 || e != api.ErrRange || len(f.List()) != 1 {
		t.Error(id, e)
	}
	back, ok := Get(wire.Read(f.Put(nil)))
	if !ok || !alike(back.List(), f.List()) {
		t.Error("there and back")
	}
	subs := []api.Sub{{ID: 1}, {ID: 2}, {ID: 3}, {ID: 4}}
	f, _ = Get(wire.Read(modelPut(api.MaxIndex, 0, nil, subs)))
	if id, e := f.Add(api.Filter{}); id != 0 || e != api.ErrFull {
		t.Error(id, e)
	}
}

// P12.2
func TestAck(t *testing.T) {
	f := with(t, 2)
	f.Note(3, put("a"))
	f.Note(5, put("b"), put("c"))
	f.Note(8)
	for i, c := range []struct {
		id, pos int
		want    api.Errno
		kept    int
	}{
		{3, 0, api.ErrFeed, 3}, {0, 0, api.ErrFeed, 3}, {1, -1, api.ErrBack, 3}, {1, 9, api.ErrRange, 3}, {1, math.MaxInt, api.ErrRange, 3}, {1, math.MinInt, api.ErrBack, 3}, {1, 0, api.OK, 3}, {1, 4, api.OK, 3}, {1, 4, api.OK, 3}, {1, 3, api.ErrBack, 3},
		{2, 2, api.OK, 3}, {2, 3, api.OK, 2}, {2, 8, api.OK, 2}, {2, 8, api.OK, 2}, {2, 7, api.ErrBack, 2}, {1, 5, api.OK, 0}, {3, 99, api.ErrFeed, 0},
	} {
		if e := f.Ack(c.id, c.pos); e != c.want || len(f.Kept()) != c.kept {
			t.Errorf("%d: %d, %v", i, e, f.Kept())
		}
	}
	if !alike(f.List(), []api.Sub{{ID: 1, At: 5}, {ID: 2, At: 8}}) {
		t.Error(f.List())
	}
}

// P12.3
func TestReadOfWholePlaces(t *testing.T) {
	f := New()
	for _, q := range []api.Filter{{}, {Kind: api.FPrefix, Text: "b"}, {Kind: api.FOr}} {
		f.Add(q)
	}
	a, b := put("a"), put("b")
	f.Note(2, a)
	f.Note(4, b, a, b)
	f.Note(5, a, a)
	f.Note(6, b)
	f.Note(9)
	two, four, five, six := at(2, a), at(4, b, a, b), at(5, a, a), at(6, b)
	for _, most := range []int{math.MinInt, -1, 0, 1, 3} {
		reads(t, f, 1, 0, most, 2, two...)
		reads(t, f, 1, 2, most, 4, four...)
	}
	reads(t, f, 1, 3, 4, 4, four...)
	reads(t, f, 1, 0, 4, 4, append(two, four...)...)
	reads(t, f, 1, 0, 5, 4, append(two, four...)...)
	reads(t, f, 1, 0, 6, 5, slices.Concat(two, four, five)...)
	reads(t, f, 1, 0, 7, 9, slices.Concat(two, four, five, six)...)
	reads(t, f, 1, 1, math.MaxInt, 9, slices.Concat(two, four, five, six)...)
	reads(t, f, 1, 5, 0, 9, six...)
	reads(t, f, 1, 6, 0, 9)
	reads(t, f, 1, 9, 9, 9)
	reads(t, f, 2, 0, 0, 2) // the first place is 2, of which nothing passes
	reads(t, f, 2, 0, 1, 2)
	reads(t, f, 2, 0, 2, 5, at(4, b, b)...)
	reads(t, f, 2, 2, 0, 4, at(4, b, b)...)
	reads(t, f, 2, 2, 2, 5, at(4, b, b)...)
	reads(t, f, 2, 0, 3, 9, append(at(4, b, b), six...)...)
	reads(t, f, 3, 0, 0, 9)
	reads(t, f, 3, 0, -1, 2)
	for i, c := range []struct {
		id, after int
		want      api.Errno
	}{{0, 0, api.ErrFeed}, {4, -1, api.ErrFeed}, {1, -1, api.ErrBack}, {1, 10, api.ErrRange}, {1, math.MaxInt, api.ErrRange}, {1, math.MinInt, api.ErrBack}} {
		if l, to, e := f.Read(c.id, c.after, 9); len(l) != 0 || to != 0 || e != c.want {
			t.Errorf("%d: %v %d %d", i, l, to, e)
		}
	}
	f.Ack(1, 4)
	if _, _, e := f.Read(1, 3, 9); e != api.ErrBack {
		t.Error(e)
	}
	if l, to, e := f.Read(1, 4, 2); !slices.Equal(l, five) || to != 5 || e != api.OK {
		t.Error(l, to, e)
	}
}

// P12.1 to P12.4, P12.6, P12.7
func TestLivesAreTheModels(t *testing.T) {
	r := rand.New(rand.NewSource(1))
	counts := map[api.Errno]int{}
	for range 300 {
		f, m := New(), &model{next: 1}
		for range 120 {
			var e, want api.Errno
			id, pos := m.next-r.Intn(6), m.top-r.Intn(6)+1
			switch r.Intn(10) {
			case 0, 1:
				q := anyFilter(r)
				got, e2 := f.Add(q)
				n, want2 := m.add(q)
				if e, want = e2, want2; got != n {
					t.Fatal(got, n)
				}
			case 2:
				if r.Intn(3) == 0 {
					e, want = f.Drop(id), m.drop(id)
				}
			case 3, 4:
				e, want = f.Ack(id, pos), m.ack(id, pos)
			case 5:
				next, ok := Get(wire.Read(append(f.Put(nil), 7)))
				if !ok {
					t.Fatal("there and back")
				}
				f = next
			default:
				pos, l := m.top+r.Intn(4), anyEvents(r, 1+r.Intn(8))
				e, want = f.Note(pos, l...), m.note(pos, l)
			}
			counts[e]++
			if e != want || f.Top() != m.top || !slices.Equal(f.Kept(), m.kept()) || !alike(f.List(), m.subs) || len(f.Kept()) > 32 {
				t.Fatalf("%d, not %d: %d, %v, %v", e, want, f.Top(), f.Kept(), f.List())
			}
			after, most := m.low()+r.Intn(8)-1, r.Intn(9)-1
			l, to, e := f.Read(id, after, most)
			wl, wto, we := m.read(id, after, most)
			counts[e]++
			if !slices.Equal(l, wl) || to != wto || e != we {
				t.Fatalf("%d behind %d, %d: %v %d %d, not %v %d %d", id, after, most, l, to, e, wl, wto, we)
			}
			if b := f.Put([]byte("ab")); !bytes.Equal(b[2:], modelPut(m.next, m.top, m.kept(), m.subs)) || string(b[:2]) != "ab" {
				t.Fatalf("%x", b)
			}
		}
	}
	for _, e := range []api.Errno{api.OK, api.ErrFeed, api.ErrEvicted, api.ErrBack, api.ErrRange, api.ErrFull, api.ErrFilter} {
		if counts[e] < 100 {
			t.Error(counts)
		}
	}
}

// P12.5: whoever asks, and acknowledges some of it, and asks anew, has just what passes.
func TestReadersHaveAllThatPasses(t *testing.T) {
	r := rand.New(rand.NewSource(2))
	for range 300 {
		f := New()
		f.Note(1+r.Intn(3), anyEvents(r, 3)...)
		q := anyFilter(r)
		id, e := f.Add(q)
		if e != api.OK {
			continue
		}
		from := f.Top()
		has, had := from, from
		var all, got []api.Event
		for range 60 {
			pos, l := f.Top()+1+r.Intn(2), anyEvents(r, 4)
			if f.Note(pos, l...) != api.OK {
				t.Fatal(pos)
			}
			all = append(all, at(pos, l...)...)
			for range r.Intn(5) {
				l, to, e := f.Read(id, has, r.Intn(5)-1)
				if e == api.ErrEvicted {
					break
				}
				if e != api.OK || to < has {
					t.Fatal(to, e)
				}
				if r.Intn(3) == 0 {
					continue // what was told is lost, and asked for anew
				}
				got, has = append(got, l...), to
				if had = had + r.Intn(has-had+1); f.Ack(id, had) != api.OK {
					t.Fatal("Ack")
				}
			}
			if f.List()[0].Gone {
				break
			}
			behind := slices.DeleteFunc(filter.Pass(q, all...), func(e api.Event) bool { return e.Pos > has })
			if !slices.Equal(got, behind) {
				t.Fatalf("%v, not %v", got, behind)
			}
		}
	}
}

// P12.4
func TestFeedOfNobody(t *testing.T) {
	for _, f := range []*Feed{nil, {}} {
		id, e := f.Add(api.Filter{Kind: 9})
		l, to, e2 := f.Read(1, 0, 1)
		if f.Top() != 0 || len(f.Kept()) != 0 || len(f.List()) != 0 || f.Note(-1) != api.ErrNil || f.Note(1, put("a")) != api.ErrNil || id != 0 || e != api.ErrNil || f.Drop(1) != api.ErrNil || f.Ack(1, 0) != api.ErrNil || len(l) != 0 || to != 0 || e2 != api.ErrNil || len(f.Put(nil)) != 0 {
			t.Error(f == nil)
		}
		room := []byte("abcd")
		b := f.Put(room[:2])
		if string(b) != "ab" {
			t.Errorf("%q", b)
		}
		for i := range b[:cap(b)] {
			b[:cap(b)][i] = 'x'
		}
		if string(room) != "abcd" {
			t.Error("Put hands out what came in")
		}
	}
	if f, ok := Get(nil); f != nil || ok {
		t.Error("of no reader")
	}
	if f, ok := Get(&wire.Reader{}); f != nil || ok {
		t.Error("of a plain reader")
	}
}

// P12.4
func TestFeedsThatCanBe(t *testing.T) {
	const most = api.MaxIndex
	ev := func(l ...int) []api.Event {
		var out []api.Event
		for _, pos := range l {
			out = append(out, api.Event{Pos: pos, Key: "k", Had: true, Old: "o", Has: true, Now: "n"})
		}
		return out
	}
	subs := func(l ...api.Sub) []api.Sub { return l }
	key96, value192 := strings.Repeat("k", 96), strings.Repeat("v", 192)
	fat := func(key, old, now string) []api.Event { return []api.Event{{Pos: 1, Key: key, Old: old, Now: now}} }
	zero := subs(api.Sub{ID: 1})
	four := subs(api.Sub{ID: 1}, api.Sub{ID: 2}, api.Sub{ID: 3, Gone: true}, api.Sub{ID: 4})
	for i, c := range []struct {
		next, top int
		kept      []api.Event
		subs      []api.Sub
		ok        bool
	}{
		{1, 0, nil, nil, true}, {most, most, nil, nil, true}, {0, 0, nil, nil, false}, {most + 1, 0, nil, nil, false}, {1, most + 1, nil, nil, false}, {math.MaxInt, 0, nil, nil, false},
		{2, 3, ev(1, 2, 2, 3), zero, true}, {2, 3, ev(0, 1), zero, false}, {2, 3, ev(4), zero, false}, {2, 3, ev(2, 1), zero, false}, {2, 0, ev(1), zero, false}, {2, 1, ev(slices.Repeat([]int{1}, 32)...), zero, true}, {2, 1, ev(slices.Repeat([]int{1}, 33)...), zero, false}, {2, most, ev(most, most), zero, true},
		{2, 3, fat(key96, value192, value192), zero, true}, {2, 3, fat(key96+"k", "", ""), zero, false}, {2, 3, fat("", value192+"v", ""), zero, false}, {2, 3, fat("", "", value192+"v"), zero, false}, {2, 3, fat("\xff\n", "\x00", ""), zero, true},
		{5, 3, ev(1), four, true}, {6, 3, ev(1), append(slices.Clone(four), api.Sub{ID: 5}), false}, {4, 3, nil, four, false}, {2, 3, nil, subs(api.Sub{ID: 0}), false}, {2, 3, nil, subs(api.Sub{ID: 2}), false}, {9, 3, nil, subs(api.Sub{ID: 8}), true}, {9, 3, nil, subs(api.Sub{ID: 9}), false},
		{9, 3, nil, subs(api.Sub{ID: 2}, api.Sub{ID: 1}), false}, {9, 3, nil, subs(api.Sub{ID: 2}, api.Sub{ID: 2}), false}, {9, 3, nil, subs(api.Sub{ID: 2}, api.Sub{ID: 7}), true}, {most, 3, nil, subs(api.Sub{ID: most - 1}), true}, {most, 3, nil, subs(api.Sub{ID: most}), false},
		{2, 3, nil, subs(api.Sub{ID: 1, From: 3, At: 3}), true}, {2, 3, nil, subs(api.Sub{ID: 1, From: 4, At: 4}), false}, {2, 3, nil, subs(api.Sub{ID: 1, From: 1, At: 4}), false}, {2, 3, nil, subs(api.Sub{ID: 1, From: 2, At: 1}), false}, {2, 3, nil, subs(api.Sub{ID: 1, From: 3, At: 1, Gone: true}), false}, {2, 3, nil, subs(api.Sub{ID: 1, From: 1, At: 2}), true},
		{2, 3, nil, subs(api.Sub{ID: 1, Filter: api.Filter{Kind: 7}}), false}, {2, 3, nil, subs(api.Sub{ID: 1, Gone: true, Filter: api.Filter{Kind: api.FNot}}), false}, {2, 3, nil, subs(api.Sub{ID: 1, Filter: api.Filter{Kind: api.FNot, Kids: []api.Filter{{}}}}), true},
		{1, 3, ev(3), nil, false}, {2, 3, ev(3), subs(api.Sub{ID: 1, Gone: true}), false}, {2, 3, nil, subs(api.Sub{ID: 1, Gone: true}), true}, {2, 3, ev(2, 3), subs(api.Sub{ID: 1, At: 1}), true}, {2, 3, ev(1, 2), subs(api.Sub{ID: 1, At: 1}), false}, {3, 3, ev(2), subs(api.Sub{ID: 1, At: 1, Gone: true}, api.Sub{ID: 2, At: 2}), false}, {3, 3, ev(2), subs(api.Sub{ID: 1, At: 1}, api.Sub{ID: 2, At: 3}), true},
	} {
		b := modelPut(c.next, c.top, c.kept, c.subs)
		r := wire.Read(append(slices.Clone(b), 5))
		f, ok := Get(r)
		if ok != c.ok || (f != nil) != c.ok {
			t.Errorf("%d: %v", i, ok)
			continue
		}
		if ok && (!bytes.Equal(f.Put(nil), b) || r.Left() != 1 || f.Top() != c.top || !slices.Equal(f.Kept(), c.kept) || !alike(f.List(), c.subs)) {
			t.Errorf("%d: %v %v", i, f.Kept(), f.List())
		}
		for n := range b {
			if f, ok := Get(wire.Read(b[:n])); f != nil || ok {
				t.Errorf("%d: cut off at %d", i, n)
			}
		}
	}
}

// P12.4: what is read, put again, is what was read.
func TestOtherBytes(t *testing.T) {
	r := rand.New(rand.NewSource(3))
	good := 0
	for range 20000 {
		f := New()
		for range r.Intn(3) {
			f.Add(anyFilter(r))
			f.Note(f.Top()+1, anyEvents(r, 3)...)
		}
		b := f.Put(nil)
		for range 1 + r.Intn(2) {
			b[r.Intn(len(b))] = byte(r.Intn(6))
		}
		rd := wire.Read(b)
		got, ok := Get(rd)
		if !ok {
			if got != nil {
				t.Fatal("a feed that is none")
			}
			continue
		}
		good++
		if !bytes.Equal(got.Put(nil), b[:len(b)-rd.Left()]) {
			t.Fatalf("%x: %x", b, got.Put(nil))
		}
	}
	if good < 1000 {
		t.Error(good)
	}
}

// What is handed in is not changed and not kept; what comes out is new.
func TestMemory(t *testing.T) {
	f := New()
	q := api.Filter{Kind: api.FAnd, Kids: []api.Filter{{Kind: api.FNot, Kids: []api.Filter{{Kind: api.FPrefix, Text: "z"}}}, {Kind: api.FPut}}}
	was := api.Filter{Kind: api.FAnd, Kids: []api.Filter{{Kind: api.FNot, Kids: []api.Filter{{Kind: api.FPrefix, Text: "z"}}}, {Kind: api.FPut}}}
	f.Add(q)
	room := []api.Event{put("a"), put("b"), put("c")}
	f.Note(4, room[:2]...)
	if !slices.Equal(room, []api.Event{put("a"), put("b"), put("c")}) {
		t.Error(room)
	}
	clear(room)
	q.Kids[0].Kids[0].Text = "a"
	q.Kids[1] = api.Filter{Kind: api.FOr}
	bytesRoom := []byte("abcdefghijklmnopqrstuvwxyz")
	for range 2 {
		l, kept, subs, b := at(4, put("a"), put("b")), f.Kept(), f.List(), f.Put(bytesRoom[:1])
		told, _, _ := f.Read(1, 0, 9)
		if !slices.Equal(kept, l) || !slices.Equal(told, l) || !alike(subs, []api.Sub{{ID: 1, Filter: was}}) {
			t.Fatal(kept, told, subs)
		}
		clear(kept[:cap(kept)])
		clear(told[:cap(told)])
		subs[0].Filter.Kids[0].Kids[0].Text = "b"
		clear(subs[0].Filter.Kids[:cap(subs[0].Filter.Kids)])
		clear(subs[:cap(subs)])
		clear(b[:cap(b)])
	}
	if string(bytesRoom) != "abcdefghijklmnopqrstuvwxyz" {
		t.Error(string(bytesRoom))
	}
}
