package machine

import (
	"bytes"
	"math/rand"
	"slices"
	"testing"

	"tidemark/api"
)

// P15.2 to P15.5, P15.7, P15.8
func TestLivesAreTheModels(t *testing.T) {
	r := rand.New(rand.NewSource(1))
	counts := map[int]map[api.Errno]int{}
	for range 300 {
		m, want := New(), newModel()
		for range 200 {
			c := want.anyCommand(r)
			if r.Intn(40) == 0 {
				c.Part++ // often one that may not be
			}
			keys, views, subs, groups, mark := m.Keys("", ""), m.Views(), m.Subs(), m.Groups(), m.Mark()
			got, reply := m.Apply(m.At()+1, modelPut(c)), want.Apply(want.at+1, c)
			if counts[c.Kind] == nil {
				counts[c.Kind] = map[api.Errno]int{}
			}
			counts[c.Kind][got.Err]++
			if got != reply {
				t.Fatalf("%v: %v, not %v", c, got, reply)
			}
			if e := same(m, want); e != nil {
				t.Fatalf("%v: %v: %v", c, got, e)
			}
			still := slices.Equal(m.Keys("", ""), keys) && slices.Equal(m.Views(), views) && alike(m.Subs(), subs) && sameGroups(m.Groups(), groups) && m.Mark() == mark
			if got.Err != api.OK && !still { // its place and its number are counted, and no more
				t.Fatalf("%v: %v changed something", c, got)
			}
			reads(t, r, m, want)
			if r.Intn(3) == 0 {
				again(t, m, want, c, got)
			}
			if r.Intn(10) == 0 {
				m = loaded(t, m)
			}
		}
	}
	for kind, list := range met() {
		for _, e := range list {
			if counts[kind][e] < 5 {
				t.Errorf("%d: %d: %v", kind, e, counts[kind])
			}
		}
	}
}

// met is the errors that each kind should have had in the lives; 0 is none.
func met() map[int][]api.Errno {
	return map[int][]api.Errno{
		0: {0}, 1: {0, 7}, 2: {0, 7, 60, 72, 90, 92, 100}, 3: {0}, 4: {0, 7, 70, 72}, 5: {0, 71}, 6: {0, 7}, 7: {0, 5, 80, 81, 82}, 8: {0, 80}, 9: {0, 100},
		10: {0, 7, 72, 101, 100}, 11: {0, 72, 100}, 12: {0, 7, 70, 100}, 13: {0, 7, 220}, 14: {0, 220, 221}, 15: {0, 1, 82, 220, 221, 222, 223}, 16: {0, 220},
	}
}

// reads fails unless a machine is read as the model is.
func reads(t *testing.T, r *rand.Rand, m *Machine, want *model) {
	t.Helper()
	for _, s := range append(m.Subs(), api.Sub{ID: r.Intn(30) - 1}) {
		after, most := s.At+r.Intn(5)-1, r.Intn(7)-1
		l, to, e := m.Read(s.ID, after, most)
		if wl, wto, we := want.feed.Read(s.ID, after, most); !slices.Equal(l, wl) || to != wto || e != we {
			t.Fatalf("%d: %v %d %d, not %v %d %d", s.ID, l, to, e, wl, wto, we)
		}
	}
	from, to := anyKey(r), anyKey(r)
	inside := slices.DeleteFunc(opsOf(want.keys), func(o api.Op) bool { return o.Key < from || o.Key >= to })
	if l := m.Keys(from, to); !slices.Equal(l, inside) {
		t.Fatalf("%s to %s: %v, not %v", from, to, l, inside)
	}
}

// again fails unless a command that is applied again has the reply that it had, and changes but the index (P15.5).
func again(t *testing.T, m *Machine, want *model, c api.Command, had api.Reply) {
	t.Helper()
	if !Counts(c.Kind) {
		return
	}
	keys, seats, subs, groups := m.Keys("", ""), m.Seats(), m.Subs(), m.Groups()
	got, reply := m.Apply(m.At()+1, modelPut(c)), want.Apply(want.at+1, c)
	open := slices.ContainsFunc(seats, func(s api.Seat) bool { return s.Session == c.Session })
	if c.Kind == api.CClose && had.Err == api.OK && !open { // it was done
		had = api.Reply{Err: api.ErrSession}
	}
	if got != reply || got != had || !slices.Equal(m.Keys("", ""), keys) || !slices.Equal(m.Seats(), seats) || !alike(m.Subs(), subs) || !sameGroups(m.Groups(), groups) {
		t.Fatalf("%v again: %v, not %v", c, got, had)
	}
	if e := same(m, want); e != nil {
		t.Fatalf("%v again: %v", c, e)
	}
}

// loaded is the machine of a machine's image.
func loaded(t *testing.T, m *Machine) *Machine {
	t.Helper()
	b := m.Image()
	next, e := Load(b)
	if e != api.OK || !bytes.Equal(next.Image(), b) {
		t.Fatalf("%x: %d", b, e)
	}
	return next
}

// batches is what a source's subscriber reads behind the place where it began, in batches, and what keys the source had at each place.
func batches(t *testing.T, r *rand.Rand) (from int, l []api.Command, keys [][]api.Op) {
	t.Helper()
	source, seq := New(), 0
	do := func(c api.Command) {
		if Counts(c.Kind) {
			c.Session, c.Seq = 1, seq
		}
		seq++
		if e := source.Apply(source.At()+1, modelPut(c)).Err; e == api.ErrCommand || e == api.ErrGap {
			t.Fatal(c)
		}
		keys = append(keys, source.Keys("", ""))
	}
	write := func() {
		l := slices.DeleteFunc(anyOps(r, 5), func(o api.Op) bool { return o.Key > "c" }) // of 24 keys: whoever follows op by op has room for all
		do(api.Command{Kind: api.CWrite, Ops: unlike(append(l, api.Op{Key: "a"}), false)})
	}
	keys = append(keys, nil)
	do(api.Command{Kind: api.COpen})
	write()
	do(api.Command{Kind: api.CSub})
	from = source.At()
	for at := from; len(l) < 25; {
		for range r.Intn(4) {
			write()
		}
		events, to, e := source.Read(1, at, r.Intn(6))
		if e != api.OK {
			t.Fatal(e)
		}
		if to == at {
			continue
		}
		c := api.Command{Kind: api.CApply, From: at, Pos: to}
		for _, e := range events {
			c.Ops = append(c.Ops, api.Op{Key: e.Key, Has: e.Has, Value: e.Now})
		}
		l, at = append(l, c), to
		do(api.Command{Kind: api.CAck, Sub: 1, Pos: at})
	}
	return from, l, keys
}

// P15.6: a source's feed, read in batches, each applied as often and as late as it may be.
func TestBatchesAreDoneOnce(t *testing.T) {
	r := rand.New(rand.NewSource(2))
	for range 200 {
		from, l, keys := batches(t, r)
		m := New()
		if got := m.Apply(1, modelPut(api.Command{Kind: api.CReset, Pos: from, Ops: keys[from]})); got != (api.Reply{N: from}) {
			t.Fatal(got)
		}
		for next := 0; next < len(l); {
			i := min(len(l)-1, max(0, next+2-r.Intn(6)))
			want := api.Reply{N: l[next].From}
			switch {
			case i > next:
				want.Err = api.ErrMark
			case i == next:
				want.N = l[next].Pos
				next++
			}
			got := m.Apply(m.At()+1, modelPut(l[i]))
			if got != want || m.Mark() != want.N || !slices.Equal(m.Keys("", ""), keys[m.Mark()]) {
				t.Fatalf("%d of %d: %v, not %v: %v, not %v", i, next, got, want, m.Keys("", ""), keys[m.Mark()])
			}
		}
	}
}
