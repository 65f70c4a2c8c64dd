package group

import (
	"fmt"
	"math"
	"math/rand"
	"slices"
	"testing"

	"tidemark/api"
	"tidemark/digest"
)

// P13.1
func TestPartIsByThePlace(t *testing.T) {
	// SipHash of the zero seed of nothing is known: 1e924b9d737700d7.
	for parts, want := range map[int]int{1: 0, 7: 0x1e924b9d737700d7 % 7, 12: 0x1e924b9d737700d7 % 12, math.MaxInt: 0x1e924b9d737700d7 % math.MaxInt, 1 << 61: 0x1e924b9d737700d7 % (1 << 61)} {
		if got := Part(parts, ""); got != want {
			t.Errorf("%d: %d, not %d", parts, got, want)
		}
	}
	great := 0
	for i := range 3000 {
		key := fmt.Sprint("k", i)
		place := digest.Place(api.Seed{}, key)
		if place >= 1<<63 {
			great++ // a place that is no int
		}
		for _, parts := range []int{1, 2, 3, 12, 1000, math.MaxInt} {
			if got := Part(parts, key); got != int(place%uint64(parts)) || got < 0 || got >= parts {
				t.Fatalf("%q of %d: %d", key, parts, got)
			}
		}
	}
	if great < 1000 {
		t.Error(great)
	}
	for _, parts := range []int{0, -1, math.MinInt} {
		if Part(parts, "a") != 0 || Part(parts, "k1") != 0 {
			t.Error(parts)
		}
	}
}

// P13.1, P13.8: each event is of just one part, and stays in its order.
func TestPassPartsAllEvents(t *testing.T) {
	var all []api.Event
	for i := range 200 {
		all = append(all, api.Event{Pos: 1 + i/3, Key: fmt.Sprint("k", i%40), Had: i > 40, Has: i%2 == 0, Now: fmt.Sprint(i)})
	}
	was := slices.Clone(all)
	for _, parts := range []int{1, 2, 5, 12, 1000} {
		n := 0
		for part := range parts {
			var want []api.Event
			for _, e := range all {
				if int(digest.Place(api.Seed{}, e.Key)%uint64(parts)) == part {
					want = append(want, e)
				}
			}
			got := Pass(parts, part, all...)
			if !slices.Equal(got, want) {
				t.Fatalf("%d of %d: %v, not %v", part, parts, got, want)
			}
			n += len(got)
			clear(got[:cap(got)])
		}
		if n != len(all) {
			t.Errorf("%d: %d events of %d", parts, n, len(all))
		}
	}
	for _, c := range [][2]int{{0, 0}, {-1, 0}, {math.MinInt, 0}, {math.MinInt, math.MinInt}, {3, 3}, {3, -1}, {1, 1}, {3, math.MaxInt}} {
		if l := Pass(c[0], c[1], all...); len(l) != 0 {
			t.Error(c, l)
		}
	}
	if !slices.Equal(all, was) || len(Pass(3, 1)) != 0 {
		t.Error("what was handed in")
	}
}

// P13.1
func TestCheck(t *testing.T) {
	for i, c := range []struct {
		name  string
		parts int
		want  api.Errno
	}{
		{"a", 1, api.OK}, {"abcdefgh", 12, api.OK}, {"zz", 5, api.OK}, {"", 1, api.ErrGroup}, {"abcdefghi", 1, api.ErrGroup}, {"A", 1, api.ErrGroup}, {"a1", 1, api.ErrGroup}, {"é", 1, api.ErrGroup}, {"\xff", 1, api.ErrGroup}, {"a b", 1, api.ErrGroup},
		{"a", 0, api.ErrGroup}, {"a", -1, api.ErrGroup}, {"a", 13, api.ErrGroup}, {"a", math.MaxInt, api.ErrGroup}, {"a", math.MinInt, api.ErrGroup}, {"", 0, api.ErrGroup},
	} {
		if got := Check(c.name, c.parts); got != c.want {
			t.Errorf("%d: %d", i, got)
		}
	}
}

// P13.2
func TestShare(t *testing.T) {
	for i, c := range []struct{ owners, members, want []int }{
		{nil, nil, nil}, {nil, []int{1, 2}, nil}, {[]int{}, []int{1}, nil}, {[]int{1, 2, 0}, nil, []int{0, 0, 0}}, {[]int{1, 2}, []int{0, -1, math.MinInt}, []int{0, 0}}, {[]int{-1, -1, 0}, []int{-1}, []int{0, 0, 0}},
		{[]int{0, 0, 0, 0}, []int{1}, []int{1, 1, 1, 1}}, {[]int{1, 1, 1, 1}, []int{1, 2}, []int{1, 1, 2, 2}}, {[]int{1, 1, 2, 2}, []int{2}, []int{2, 2, 2, 2}}, {[]int{0, 0, 0}, []int{2, 1}, []int{1, 1, 2}},
		{[]int{2, 2, 1}, []int{1, 2}, []int{2, 2, 1}},                // the one that has most may have one more
		{[]int{1, 2, 3}, []int{2, 3}, []int{2, 2, 3}},                // of as many the lesser one
		{[]int{3, 3, 3, 3, 3}, []int{1, 2, 3}, []int{3, 3, 1, 1, 2}}, // the others: the lesser one has the other one more
		{[]int{7, 1, 7, 1, 7}, []int{1, 2}, []int{1, 1, 2, 1, 2}}, {[]int{9, 9, 2, 9, 9}, []int{9, 1, 2, 9, 9, 0, 1}, []int{9, 9, 2, 1, 2}}, {[]int{5, 4, 5, 4}, []int{1, 2, 3, 4, 5, 6}, []int{5, 4, 1, 2}},
		{[]int{1, 2}, []int{math.MaxInt, 2}, []int{math.MaxInt, 2}}, {[]int{math.MinInt, math.MaxInt}, []int{math.MaxInt}, []int{math.MaxInt, math.MaxInt}},
	} {
		owners, members := slices.Clone(c.owners), slices.Clone(c.members)
		got := Share(c.owners, c.members)
		if !slices.Equal(got, c.want) || !slices.Equal(modelShare(c.owners, c.members), c.want) {
			t.Errorf("%d: %v, not %v", i, got, c.want)
		}
		clear(got[:cap(got)])
		if !slices.Equal(owners, c.owners) || !slices.Equal(members, c.members) {
			t.Errorf("%d: what was handed in", i)
		}
	}
}

// P13.2
func TestShareIsTheModels(t *testing.T) {
	r := rand.New(rand.NewSource(1))
	some := func(n, lo, hi int) []int {
		var l []int
		for range r.Intn(n + 1) {
			l = append(l, lo+r.Intn(hi-lo+1))
		}
		return l
	}
	for range 20000 {
		owners, members := some(14, -1, 7), some(8, -1, 7)
		got := Share(owners, members)
		if !slices.Equal(got, modelShare(owners, members)) {
			t.Fatalf("%v by %v: %v, not %v", owners, members, got, modelShare(owners, members))
		}
		if again := Share(got, members); !slices.Equal(again, got) {
			t.Fatalf("%v by %v, again: %v", got, members, again)
		}
	}
}

// kept is how many parts have the owner that they had; uneven how many parts more one of a team has than another one, at most.
func kept(a, b []int) int {
	n := 0
	for i := range a {
		if a[i] == b[i] {
			n++
		}
	}
	return n
}

func uneven(owners, team []int) int {
	most, least := 0, len(owners)
	for _, m := range team {
		n := 0
		for _, o := range owners {
			if o == m {
				n++
			}
		}
		most, least = max(most, n), min(least, n)
	}
	return most - least
}

// ways is all ways to share so many parts.
func ways(parts int, team []int) [][]int {
	l := [][]int{{}}
	for range parts {
		var next [][]int
		for _, w := range l {
			for _, m := range team {
				next = append(next, append(slices.Clone(w), m))
			}
		}
		l = next
	}
	return l
}

// P13.6, P13.7: against all ways that there are.
func TestNoWayKeepsMore(t *testing.T) {
	team := []int{1, 2, 3}
	for parts := range 6 {
		for members := 1; members < 4; members++ {
			l := ways(parts, team[:members])
			for _, owners := range ways(parts, []int{0, 1, 2, 3}) {
				got := Share(owners, team[:members])
				best := 0
				for _, w := range l {
					if uneven(w, team[:members]) < 2 {
						best = max(best, kept(w, owners))
					}
				}
				if len(got) != parts || uneven(got, team[:members]) > 1 || kept(got, owners) != best || slices.ContainsFunc(got, func(m int) bool { return m < 1 || m > members }) {
					t.Fatalf("%v by %d: %v, %d kept, not %d", owners, members, got, kept(got, owners), best)
				}
			}
		}
	}
}

// P13.2: long lists end soon.
func TestShareOfMany(t *testing.T) {
	const n = 1 << 20
	owners, members := make([]int, n), make([]int, n/2)
	for i := range owners {
		owners[i] = i % 1000
	}
	for i := range members {
		members[i] = n/2 - i
	}
	got := Share(owners, members)
	many := make([]int, n/2+1)
	for _, m := range got {
		many[m]++
	}
	if len(got) != n || slices.ContainsFunc(many[1:], func(n int) bool { return n != 2 }) || kept(got, owners) != 2*999 {
		t.Error(len(got), kept(got, owners))
	}
}
