package group

import (
	"bytes"
	"fmt"
	"math"
	"math/rand"
	"slices"
	"testing"

	"tidemark/api"
	"tidemark/wire"
)

const most = api.MaxIndex

// read is the groups of a model's bytes, which may be.
func read(t *testing.T, l ...api.Group) *Groups {
	t.Helper()
	g, ok := Get(wire.Read(model(l).put()))
	if !ok {
		t.Fatalf("%v may be", l)
	}
	return g
}

// one is a group of the name g with a team and its parts.
func one(term, next int, members, owners, at []int) api.Group {
	return api.Group{Name: "g", Sub: 1, Term: term, Next: next, Members: members, Owners: owners, At: at}
}

// is fails unless the groups are just these.
func is(t *testing.T, g *Groups, want ...api.Group) {
	t.Helper()
	if !alike(g.List(), want) {
		t.Errorf("%v, not %v", g.List(), want)
	}
	for _, x := range want {
		if got, e := g.Get(x.Name); e != api.OK || !alike([]api.Group{got}, []api.Group{x}) {
			t.Errorf("%v %d, not %v", got, e, x)
		}
	}
	if b := g.Put(nil); !bytes.Equal(b, model(want).put()) {
		t.Errorf("%x", b)
	}
}

// The document's example.
func TestExample(t *testing.T) {
	g := New()
	if e := g.Add("g", 4, 1, 0); e != api.OK {
		t.Fatal(e)
	}
	is(t, g, one(0, 1, nil, []int{0, 0, 0, 0}, []int{0, 0, 0, 0}))
	if n, e := g.Join("g"); n != 1 || e != api.OK {
		t.Fatal(n, e)
	}
	is(t, g, one(1, 2, []int{1}, []int{1, 1, 1, 1}, []int{0, 0, 0, 0}))
	if n, e := g.Join("g"); n != 2 || e != api.OK {
		t.Fatal(n, e)
	}
	is(t, g, one(2, 3, []int{1, 2}, []int{1, 1, 2, 2}, []int{0, 0, 0, 0}))
	if e := g.Commit("g", 1, 1, 0, 5); e != api.ErrTerm {
		t.Error(e)
	}
	if e := g.Commit("g", 1, 2, 0, 5); e != api.OK {
		t.Error(e)
	}
	if low, e := g.Low("g"); low != 0 || e != api.OK {
		t.Error(low, e)
	}
	if e := g.Leave("g", 1); e != api.OK {
		t.Error(e)
	}
	is(t, g, one(3, 3, []int{2}, []int{2, 2, 2, 2}, []int{5, 0, 0, 0}))
}

// P13.3
func TestAdd(t *testing.T) {
	g := New()
	is(t, g)
	var want []api.Group
	for i, c := range []struct {
		name           string
		parts, sub, at int
		want           api.Errno
	}{
		{"", 1, 1, 0, api.ErrGroup}, {"a", 0, 1, 0, api.ErrGroup}, {"a", 13, 0, -1, api.ErrGroup}, {"a", 1, 0, 0, api.ErrArg}, {"a", 1, -1, 0, api.ErrArg}, {"a", 1, most + 1, 0, api.ErrArg}, {"a", 1, 1, -1, api.ErrArg}, {"a", 1, 1, most + 1, api.ErrArg}, {"a", 1, math.MaxInt, math.MinInt, api.ErrArg},
		{"b", 1, most, most, api.OK}, {"b", 1, 1, 0, api.ErrThere}, {"b", 13, 1, 0, api.ErrGroup}, {"b", 2, 0, 0, api.ErrThere}, {"a", 12, 1, 7, api.OK}, {"abcdefgh", 2, 1, 0, api.OK}, {"c", 1, 1, 0, api.ErrFull}, {"c", 1, 0, 0, api.ErrFull}, {"c", 0, 1, 0, api.ErrGroup}, {"a", 1, 1, 0, api.ErrThere},
	} {
		if e := g.Add(c.name, c.parts, c.sub, c.at); e != c.want {
			t.Errorf("%d: %d", i, e)
		}
		if c.want == api.OK {
			want = append(want, api.Group{Name: c.name, Sub: c.sub, Next: 1, Owners: make([]int, c.parts), At: slices.Repeat([]int{c.at}, c.parts)})
		}
		is(t, g, want...)
	}
	if x, e := g.Get("c"); !alike([]api.Group{x}, []api.Group{{}}) || e != api.ErrGroup {
		t.Error(x, e)
	}
	for i, c := range []struct {
		name string
		sub  int
		want api.Errno
	}{{"c", 0, api.ErrGroup}, {"", 0, api.ErrGroup}, {"b", most, api.OK}, {"b", 0, api.ErrGroup}} {
		if sub, e := g.Drop(c.name); sub != c.sub || e != c.want {
			t.Errorf("%d: %d %d", i, sub, e)
		}
	}
	is(t, g, want[1:]...)
	if e := g.Add("b", 3, 2, 1); e != api.OK {
		t.Error(e)
	}
	is(t, g, want[1], want[2], api.Group{Name: "b", Sub: 2, Next: 1, Owners: []int{0, 0, 0}, At: []int{1, 1, 1}})
}

// P13.3
func TestTeamsThatAreFull(t *testing.T) {
	g := New()
	g.Add("g", 7, 1, 0)
	for i := range 6 {
		if n, e := g.Join("g"); n != i+1 || e != api.OK {
			t.Fatal(n, e)
		}
	}
	before := g.List()
	for range 2 {
		if n, e := g.Join("g"); n != 0 || e != api.ErrFull {
			t.Error(n, e)
		}
	}
	for _, member := range []int{0, -1, 7, math.MaxInt, math.MinInt} {
		if e := g.Leave("g", member); e != api.ErrMember {
			t.Error(member, e)
		}
	}
	n, e := g.Join("x")
	if n != 0 || e != api.ErrGroup || g.Leave("x", 1) != api.ErrGroup || !alike(g.List(), before) {
		t.Error(n, e)
	}
	if g.Leave("g", 3) != api.OK || g.Leave("g", 3) != api.ErrMember {
		t.Error("Leave")
	}
	if n, e := g.Join("g"); n != 7 || e != api.OK {
		t.Error("numbers go on:", n, e)
	}
	is(t, g, one(8, 8, []int{1, 2, 4, 5, 6, 7}, []int{1, 1, 4, 2, 7, 6, 5}, make([]int, 7)))
}

// P13.3
func TestLastTermAndNumber(t *testing.T) {
	six := []int{1, 2, 3, 4, 5, 6}
	for i, c := range []struct {
		x           api.Group
		join, leave api.Errno
	}{
		{one(most, 9, []int{1}, []int{1}, []int{0}), api.ErrRange, api.ErrRange}, {one(most-1, 9, []int{1}, []int{1}, []int{0}), api.OK, api.OK}, {one(0, most, []int{1}, []int{1}, []int{0}), api.ErrRange, api.OK}, {one(0, most-1, []int{1}, []int{1}, []int{0}), api.OK, api.OK}, {one(most, most, six, six, make([]int, 6)), api.ErrFull, api.ErrRange},
	} {
		g := read(t, c.x)
		if n, e := g.Join("g"); e != c.join || e == api.OK && n != c.x.Next || e != api.OK && n != 0 {
			t.Errorf("%d: Join: %d %d", i, n, e)
		}
		if c.join != api.OK {
			is(t, g, c.x)
		}
		g = read(t, c.x)
		if e := g.Leave("g", 7); e != api.ErrMember {
			t.Errorf("%d: Leave: %d", i, e)
		}
		if e := g.Leave("g", 1); e != c.leave {
			t.Errorf("%d: Leave: %d", i, e)
		}
		if c.leave != api.OK {
			is(t, g, c.x)
		}
	}
}

// P13.4
func TestOwnsAndCommit(t *testing.T) {
	x := one(5, 9, []int{2, 8}, []int{2, 2, 8}, []int{3, most, 4})
	for i, c := range []struct {
		name                    string
		member, term, part, pos int
		owns, commit            api.Errno
	}{
		{"x", 2, 5, 0, 9, api.ErrGroup, api.ErrGroup}, {"", 0, 0, -1, -1, api.ErrGroup, api.ErrGroup}, {"g", 1, 5, 0, 9, api.ErrMember, api.ErrMember}, {"g", 0, 4, 9, -1, api.ErrMember, api.ErrMember}, {"g", math.MinInt, 5, 0, 9, api.ErrMember, api.ErrMember},
		{"g", 2, 4, 0, 9, api.ErrTerm, api.ErrTerm}, {"g", 2, 6, 3, -1, api.ErrTerm, api.ErrTerm}, {"g", 2, -5, 0, 9, api.ErrTerm, api.ErrTerm}, {"g", 2, 5, 3, 9, api.ErrArg, api.ErrArg}, {"g", 2, 5, -1, 9, api.ErrArg, api.ErrArg}, {"g", 2, 5, math.MaxInt, 9, api.ErrArg, api.ErrArg}, {"g", 2, 5, math.MinInt, -1, api.ErrArg, api.ErrArg},
		{"g", 2, 5, 2, 9, api.ErrOwner, api.ErrOwner}, {"g", 8, 5, 0, 9, api.ErrOwner, api.ErrOwner}, {"g", 8, 5, 1, -1, api.ErrOwner, api.ErrOwner},
		{"g", 2, 5, 0, 2, api.OK, api.ErrBack}, {"g", 2, 5, 0, -1, api.OK, api.ErrBack}, {"g", 2, 5, 0, most + 1, api.OK, api.ErrRange}, {"g", 2, 5, 0, math.MaxInt, api.OK, api.ErrRange}, {"g", 2, 5, 1, most - 1, api.OK, api.ErrBack}, {"g", 2, 5, 1, most, api.OK, api.OK}, {"g", 2, 5, 0, 3, api.OK, api.OK}, {"g", 2, 5, 0, 4, api.OK, api.OK}, {"g", 2, 5, 0, most, api.OK, api.OK}, {"g", 8, 5, 2, 5, api.OK, api.OK},
	} {
		g, want := read(t, x), x
		if e := g.Owns(c.name, c.member, c.term, c.part); e != c.owns {
			t.Errorf("%d: Owns: %d", i, e)
		}
		if e := g.Commit(c.name, c.member, c.term, c.part, c.pos); e != c.commit {
			t.Errorf("%d: Commit: %d", i, e)
		}
		if want.At = slices.Clone(x.At); c.commit == api.OK {
			want.At[c.part] = c.pos
		}
		is(t, g, want)
		if low, e := g.Low("g"); low != slices.Min(want.At) || e != api.OK {
			t.Errorf("%d: Low: %d %d", i, low, e)
		}
		if low, e := g.Low("x"); low != 0 || e != api.ErrGroup {
			t.Errorf("%d: Low: %d %d", i, low, e)
		}
	}
}

// P13.4: a part that is nobody's is no member's.
func TestPartsOfNobody(t *testing.T) {
	g := New()
	g.Add("g", 2, 1, 7)
	for _, member := range []int{0, 1} {
		if e := g.Owns("g", member, 0, 0); e != api.ErrMember {
			t.Error(e)
		}
	}
	if low, e := g.Low("g"); low != 7 || e != api.OK {
		t.Error(low, e)
	}
}

// P13.3 to P13.9
func TestLivesAreTheModels(t *testing.T) {
	r := rand.New(rand.NewSource(1))
	counts := map[api.Errno]int{}
	for range 400 {
		g, m := New(), model{}
		for range 100 {
			name := []string{"a", "b", "cc", "a", "d", "b", "A"}[r.Intn(7)]
			var x api.Group
			if i := m.at(name); i >= 0 {
				x = m[i]
			}
			member, term, part, pos := x.Next-r.Intn(5), x.Term-r.Intn(2), r.Intn(len(x.At)+2)-1, r.Intn(20)
			before := g.List()
			var n, wn int
			var e, we api.Errno
			switch r.Intn(14) {
			case 0, 1:
				parts, sub := r.Intn(14), r.Intn(9)
				e, we = g.Add(name, parts, sub, pos), m.add(name, parts, sub, pos)
			case 2:
				n, e = g.Drop(name)
				wn, we = m.drop(name)
			case 3, 4, 5:
				n, e = g.Join(name)
				wn, we = m.join(name)
			case 6, 7:
				e, we = g.Leave(name, member), m.leave(name, member)
			case 8:
				e, we = g.Owns(name, member, term, part), m.owns(name, member, term, part)
			case 9:
				next, ok := Get(wire.Read(append(g.Put(nil), 7)))
				if !ok {
					t.Fatalf("there and back: %v", g.List())
				}
				g = next
			default:
				e, we = g.Commit(name, member, term, part, pos), m.commit(name, member, term, part, pos)
			}
			counts[e]++
			if n != wn || e != we || !alike(g.List(), m) || e != api.OK && !alike(g.List(), before) {
				t.Fatalf("%d %d, not %d %d: %v, not %v", n, e, wn, we, g.List(), m)
			}
			low, e := g.Low(name)
			wlow, we := m.low(name)
			if low != wlow || e != we || !bytes.Equal(g.Put(nil), m.put()) {
				t.Fatalf("%d %d, not %d %d", low, e, wlow, we)
			}
			for _, x := range g.List() {
				fair(t, x)
			}
		}
	}
	for _, e := range []api.Errno{api.OK, api.ErrGroup, api.ErrThere, api.ErrFull, api.ErrArg, api.ErrMember, api.ErrTerm, api.ErrOwner, api.ErrBack} {
		if counts[e] < 50 {
			t.Error(counts)
		}
	}
}

// fair fails unless a group's parts are shared as evenly as can be (P13.6), each one member's (P13.8).
func fair(t *testing.T, x api.Group) {
	t.Helper()
	if len(x.Members) > 0 && uneven(x.Owners, x.Members) > 1 {
		t.Fatal(x)
	}
	for part, owner := range x.Owners {
		if len(x.Members) == 0 && owner != 0 || len(x.Members) > 0 && !slices.Contains(x.Members, owner) {
			t.Fatal(part, x)
		}
	}
}

// P13.8: of one term each part is just one member's, whoever asks.
func TestEachPartIsOnes(t *testing.T) {
	g := New()
	g.Add("g", 11, 1, 0)
	for range 5 {
		g.Join("g")
	}
	g.Leave("g", 2)
	for term := range 8 {
		for part := range 11 {
			n := 0
			for member := range 7 {
				if g.Owns("g", member, term, part) == api.OK {
					n++
				}
			}
			if n != 1 && term == 6 || n != 0 && term != 6 {
				t.Error(term, part, n)
			}
		}
	}
}

// P13.5
func TestGroupsOfNobody(t *testing.T) {
	for _, g := range []*Groups{nil, {}} {
		x, e := g.Get("")
		sub, e2 := g.Drop("g")
		n, e3 := g.Join("g")
		low, e4 := g.Low("g")
		if !alike([]api.Group{x}, []api.Group{{}}) || sub != 0 || n != 0 || low != 0 || e != api.ErrNil || e2 != api.ErrNil || e3 != api.ErrNil || e4 != api.ErrNil || len(g.List()) != 0 {
			t.Error(x, e, sub, e2, n, e3, low, e4)
		}
		for i, e := range []api.Errno{g.Add("g", 1, 1, 0), g.Add("", 0, 0, -1), g.Leave("g", 1), g.Owns("g", 1, 1, 1), g.Commit("g", 1, 1, 1, 1)} {
			if e != api.ErrNil {
				t.Error(i, e)
			}
		}
		room := []byte("abcd")
		b := g.Put(room[:2])
		if string(b) != "ab" || len(g.Put(nil)) != 0 {
			t.Errorf("%q", b)
		}
		clear(b[:cap(b)])
		if string(room) != "abcd" {
			t.Error("Put hands out what came in")
		}
	}
	for _, r := range []*wire.Reader{nil, {}, wire.Read(nil), wire.Read([]byte{9})} {
		if g, ok := Get(r); g != nil || ok {
			t.Error("of no reader, or of nothing")
		}
	}
	r := wire.Read([]byte{9, 0})
	r.Number()
	if g, ok := Get(r); g != nil || ok {
		t.Error("behind an error")
	}
}

// P13.5
func TestGroupsThatCanBe(t *testing.T) {
	named := func(name string) api.Group {
		x := one(0, 1, nil, []int{0}, []int{0})
		x.Name = name
		return x
	}
	sub := func(n int) api.Group {
		x := named("g")
		x.Sub = n
		return x
	}
	six, twelve := []int{1, 2, 3, 4, 5, 6}, make([]int, 12)
	for i, c := range []struct {
		l  []api.Group
		ok bool
	}{
		{nil, true}, {[]api.Group{named("g")}, true}, {[]api.Group{named("a"), named("b"), named("abcdefgh")}, true}, {[]api.Group{named("a"), named("b"), named("c"), named("d")}, false}, {[]api.Group{named("a"), named("a")}, false}, {[]api.Group{named("b"), named("a"), named("b")}, false},
		{[]api.Group{named("")}, false}, {[]api.Group{named("A")}, false}, {[]api.Group{named("abcdefghi")}, false}, {[]api.Group{named("a"), named("é")}, false},
		{[]api.Group{sub(0)}, false}, {[]api.Group{sub(most)}, true}, {[]api.Group{sub(most + 1)}, false}, {[]api.Group{sub(math.MaxInt)}, false},
		{[]api.Group{one(most, most, nil, []int{0}, []int{most})}, true}, {[]api.Group{one(most+1, 1, nil, []int{0}, []int{0})}, false}, {[]api.Group{one(0, most+1, nil, []int{0}, []int{0})}, false}, {[]api.Group{one(0, 0, nil, []int{0}, []int{0})}, false}, {[]api.Group{one(0, 1, nil, []int{0}, []int{most + 1})}, false},
		{[]api.Group{one(0, 1, nil, nil, nil)}, false}, {[]api.Group{one(0, 1, nil, twelve, twelve)}, true}, {[]api.Group{one(0, 1, nil, make([]int, 13), make([]int, 13))}, false},
		{[]api.Group{one(6, 7, six, six, make([]int, 6))}, true}, {[]api.Group{one(7, 8, append(slices.Clone(six), 7), append(slices.Clone(six), 7), make([]int, 7))}, false}, {[]api.Group{one(0, 7, six, six, make([]int, 6))}, true},
		{[]api.Group{one(1, 2, []int{0}, []int{0}, []int{0})}, false}, {[]api.Group{one(1, 2, []int{2}, []int{2}, []int{0})}, false}, {[]api.Group{one(1, 2, []int{1}, []int{1}, []int{0})}, true}, {[]api.Group{one(1, 9, []int{3, 8}, []int{8, 3}, []int{0, 1})}, true}, {[]api.Group{one(1, 9, []int{8, 3}, []int{8, 3}, []int{0, 1})}, false}, {[]api.Group{one(1, 9, []int{3, 3}, []int{3, 3}, []int{0, 1})}, false}, {[]api.Group{one(1, most, []int{most - 1}, []int{most - 1}, []int{0})}, true}, {[]api.Group{one(1, 1, []int{1}, []int{1}, []int{0})}, false},
		{[]api.Group{one(1, 2, nil, []int{1}, []int{0})}, false}, {[]api.Group{one(1, 2, []int{1}, []int{0}, []int{0})}, false}, {[]api.Group{one(1, 3, []int{1, 2}, []int{1, 1}, []int{0, 0})}, false}, {[]api.Group{one(1, 3, []int{1, 2}, []int{2, 1, 2}, []int{0, 0, 0})}, true}, {[]api.Group{one(1, 3, []int{1, 2}, []int{2, 2, 2}, []int{0, 0, 0})}, false}, {[]api.Group{one(1, 3, []int{1, 2}, []int{1, 3}, []int{0, 0})}, false}, {[]api.Group{one(1, 3, []int{1, 2}, []int{most + 1, 2}, []int{0, 0})}, false},
	} {
		b := model(c.l).put()
		r := wire.Read(append(slices.Clone(b), 5))
		g, ok := Get(r)
		if ok != c.ok || (g != nil) != c.ok {
			t.Errorf("%d: %v", i, ok)
			continue
		}
		if ok {
			is(t, g, c.l...)
		}
		if ok && r.Left() != 1 {
			t.Errorf("%d: %d left", i, r.Left())
		}
		for n := range b {
			if g, ok := Get(wire.Read(b[:n])); g != nil || ok {
				t.Errorf("%d: cut off at %d", i, n)
			}
		}
	}
}

// P13.5: what is read, put again, is what was read.
func TestOtherBytes(t *testing.T) {
	r := rand.New(rand.NewSource(3))
	good := 0
	for range 30000 {
		g := New()
		for i := range r.Intn(3) {
			name := fmt.Sprintf("%c", 'a'+i)
			g.Add(name, 1+r.Intn(3), 1+r.Intn(3), r.Intn(3))
			for range r.Intn(4) {
				g.Join(name)
			}
		}
		b := g.Put(nil)
		for range 1 + r.Intn(2) {
			b[r.Intn(len(b))] = byte(r.Intn(6))
		}
		rd := wire.Read(b)
		got, ok := Get(rd)
		if !ok {
			if got != nil {
				t.Fatal("groups that are none")
			}
			continue
		}
		good++
		if !bytes.Equal(got.Put(nil), b[:len(b)-rd.Left()]) {
			t.Fatalf("%x: %x", b, got.Put(nil))
		}
	}
	if good < 1000 {
		t.Error(good)
	}
}

// What comes out is new, and what Put is handed is not changed.
func TestMemory(t *testing.T) {
	g := New()
	g.Add("g", 3, 1, 4)
	g.Add("h", 1, 1, 0)
	g.Join("g")
	g.Join("g")
	room := []byte("abcdefghijklmnopqrstuvwxyz")
	want := []api.Group{one(2, 3, []int{1, 2}, []int{1, 1, 2}, []int{4, 4, 4}), {Name: "h", Sub: 1, Next: 1, Owners: []int{0}, At: []int{0}}}
	for range 2 {
		is(t, g, want...)
		x, _ := g.Get("g")
		l, b := g.List(), g.Put(room[:2])
		for _, x := range append(l, x) {
			for _, n := range [][]int{x.Members, x.Owners, x.At} {
				for i := range n[:cap(n)] {
					n[:cap(n)][i] = 77
				}
			}
		}
		if string(b[:2]) != "ab" {
			t.Errorf("%q", b)
		}
		clear(l[:cap(l)])
		clear(b[:cap(b)])
	}
	other := read(t, want...)
	other.Join("g")
	other.Drop("h")
	is(t, g, want...)
	if string(room) != "abcdefghijklmnopqrstuvwxyz" {
		t.Error(string(room))
	}
}
