package kv

import (
	"fmt"
	"math"
	"math/rand"
	"slices"
	"strings"
	"testing"

	"tidemark/api"
	"tidemark/wire"
)

func put(key, value string) api.Op { return api.Op{Key: key, Has: true, Value: value} }
func del(key string) api.Op        { return api.Op{Key: key} }

// made is a map of so many keys: k00, k01, ..
func made(t *testing.T, n int) *Map {
	t.Helper()
	var l []api.Event
	for i := range n {
		l = append(l, api.Event{Key: fmt.Sprintf("k%02d", i), Has: true, Now: "1"})
	}
	m := New()
	m.Take(l...)
	if m.Len() != n {
		t.Fatal(m.Len())
	}
	return m
}

// P9.1
func TestNewMapHasNothing(t *testing.T) {
	m := New()
	if v, ok := m.Get("a"); m == nil || m.Len() != 0 || v != "" || ok || len(m.Scan("", "")) != 0 {
		t.Error("a new one")
	}
}

// P9.1
func TestGetAndScan(t *testing.T) {
	m := New()
	if e := m.Set([]api.Op{put("b", "2"), put("é", "5"), put("a", ""), put("ab", "3"), put("Z", "4")}); e != api.OK || m.Len() != 5 {
		t.Fatal(e, m.Len())
	}
	all := []api.Op{put("Z", "4"), put("a", ""), put("ab", "3"), put("b", "2"), put("é", "5")}
	for _, c := range []struct {
		from, to string
		want     []api.Op
	}{
		{"", "", all}, {"a", "", all[1:]}, {"a", "b", all[1:3]}, {"aa", "b\x00", all[2:4]}, {"b", "b", nil}, {"b", "a", nil}, {"c", "\xc3", nil}, {"c", "\xc4", all[4:]}, {"\xff", "", nil}, {"", "Z", nil}, {"", "a", all[:1]},
	} {
		if got := m.Scan(c.from, c.to); !slices.Equal(got, c.want) {
			t.Errorf("%q, %q: %v", c.from, c.to, got)
		}
	}
	if v, ok := m.Get("a"); v != "" || !ok {
		t.Error("an empty value")
	}
	if v, ok := m.Get("aa"); v != "" || ok {
		t.Error(v)
	}
	l := m.Scan("", "")
	for i := range l[:cap(l)] {
		l[:cap(l)][i] = put("x", "x")
	}
	if !slices.Equal(m.Scan("", ""), all) {
		t.Error("Scan hands out what the map keeps")
	}
}

// P9.2
func TestCheckOfOperations(t *testing.T) {
	k24, k25, v48, v49 := strings.Repeat("é", 24), strings.Repeat("é", 25), strings.Repeat("€", 48), strings.Repeat("€", 49)
	many := func(n int) []api.Op {
		var l []api.Op
		for i := range n {
			l = append(l, put(string(rune('a'+i)), ""))
		}
		return l
	}
	ok := []api.Op{put("a", "")}
	for i, c := range []struct {
		conds, ops []api.Op
		want       api.Errno
	}{
		{nil, nil, api.ErrOps}, {many(1), nil, api.ErrOps}, {nil, many(6), api.OK}, {nil, many(7), api.ErrOps}, {many(6), many(6), api.OK}, {many(7), many(6), api.ErrOps}, {[]api.Op{put("", "")}, nil, api.ErrOps}, {append(many(6), put("", "")), many(1), api.ErrOps},
		{nil, []api.Op{put("", "")}, api.ErrKey}, {nil, []api.Op{put(k24, v48)}, api.OK}, {nil, []api.Op{put(k25, "")}, api.ErrKey}, {nil, []api.Op{del("\n")}, api.ErrKey}, {nil, []api.Op{put("a", v49)}, api.ErrValue}, {nil, []api.Op{put("a", "\xff")}, api.ErrValue},
		{nil, []api.Op{del("a")}, api.OK}, {nil, []api.Op{{Key: "a", Value: "1"}}, api.ErrValue}, {nil, []api.Op{{Key: "", Value: "1"}}, api.ErrKey}, {nil, []api.Op{put("a", "1"), put("a", "2")}, api.ErrOps}, {nil, []api.Op{put("a", "1"), del("b"), del("a")}, api.ErrOps},
		{nil, []api.Op{put("a", "1"), put("a", v49)}, api.ErrValue}, {nil, []api.Op{put("a", "1"), put("a", "1"), put("", "")}, api.ErrOps}, {nil, []api.Op{put("a", v49), put("", "")}, api.ErrValue}, {nil, []api.Op{put("", "\n")}, api.ErrKey}, {nil, []api.Op{put("\n", ""), put("\n", "")}, api.ErrKey},
		{[]api.Op{put("", "")}, ok, api.ErrKey}, {[]api.Op{put("a", "\x1f")}, []api.Op{put("", "")}, api.ErrValue}, {[]api.Op{del("a"), put("a", "")}, []api.Op{put("", "")}, api.ErrOps}, {ok, ok, api.OK}, {[]api.Op{put("a", "1"), put("b", "1")}, []api.Op{del("a"), del("b")}, api.OK}, {ok, []api.Op{put("a", "\n")}, api.ErrValue},
	} {
		if got := Check(c.conds, c.ops); got != c.want {
			t.Errorf("%d: %d, not %d", i, got, c.want)
		}
		if got := modelCheck(c.conds, c.ops); got != c.want {
			t.Errorf("%d: the model: %d", i, got)
		}
		if l, e := New().Plan(1, c.conds, c.ops); c.want != api.OK && (e != c.want || len(l) != 0) {
			t.Errorf("%d: Plan: %v %d", i, l, e)
		}
	}
}

// P9.3: the document's example, and what else operations may tell.
func TestDoTellsWhatChanges(t *testing.T) {
	m := New()
	for i, c := range []struct {
		conds, ops []api.Op
		want       []api.Event
		e          api.Errno
	}{
		{nil, []api.Op{put("a", "1")}, []api.Event{{Pos: 0, Key: "a", Has: true, Now: "1"}}, api.OK},
		{[]api.Op{put("a", "1")}, []api.Op{del("a"), put("b", "2")}, []api.Event{{Pos: 1, Key: "a", Had: true, Old: "1"}, {Pos: 1, Key: "b", Has: true, Now: "2"}}, api.OK},
		{[]api.Op{put("a", "1")}, []api.Op{put("b", "3")}, nil, api.ErrCond},
		{nil, []api.Op{put("b", "2")}, nil, api.OK}, {nil, []api.Op{del("a")}, nil, api.OK}, {[]api.Op{del("b")}, []api.Op{put("c", "")}, nil, api.ErrCond}, {[]api.Op{put("b", "")}, []api.Op{put("c", "")}, nil, api.ErrCond}, {[]api.Op{put("a", "")}, []api.Op{put("c", "")}, nil, api.ErrCond},
		{[]api.Op{del("a"), put("b", "2")}, []api.Op{put("c", ""), put("b", "2"), put("a", "x"), del("d")}, []api.Event{{Pos: 8, Key: "c", Has: true}, {Pos: 8, Key: "a", Has: true, Now: "x"}}, api.OK},
		{nil, []api.Op{put("c", "3"), put("b", ""), del("a")}, []api.Event{{Pos: 9, Key: "c", Had: true, Has: true, Now: "3"}, {Pos: 9, Key: "b", Had: true, Old: "2", Has: true}, {Pos: 9, Key: "a", Had: true, Old: "x"}}, api.OK},
		{[]api.Op{put("b", "")}, []api.Op{del("b")}, []api.Event{{Pos: 10, Key: "b", Had: true}}, api.OK},
		{[]api.Op{put("c", "3"), put("b", "")}, []api.Op{del("c")}, nil, api.ErrCond},
	} {
		before := m.Scan("", "")
		plan, pe := m.Plan(i, c.conds, c.ops)
		if !slices.Equal(m.Scan("", ""), before) {
			t.Fatalf("%d: Plan changed the map", i)
		}
		got, e := m.Do(i, c.conds, c.ops)
		if !slices.Equal(got, c.want) || e != c.e || !slices.Equal(plan, c.want) || pe != c.e {
			t.Errorf("%d: %v %d, %v %d", i, plan, pe, got, e)
		}
	}
	if l := m.Scan("", ""); !slices.Equal(l, []api.Op{put("c", "3")}) {
		t.Error(l)
	}
	for _, pos := range []int{-1, math.MinInt, math.MaxInt} {
		if l, e := m.Plan(pos, nil, []api.Op{put("a", "1")}); e != api.OK || len(l) != 1 || l[0].Pos != pos {
			t.Error(pos, l, e)
		}
	}
}

// P9.3
func TestNoMoreThan24Keys(t *testing.T) {
	full, over := made(t, 24), made(t, 26)
	for i, c := range []struct {
		m    *Map
		ops  []api.Op
		want api.Errno
	}{
		{made(t, 23), []api.Op{put("x", "")}, api.OK}, {made(t, 23), []api.Op{put("x", ""), put("y", "")}, api.ErrFull}, {made(t, 18), []api.Op{put("a", ""), put("b", ""), put("c", ""), put("d", ""), put("e", ""), put("f", "")}, api.OK}, {made(t, 19), []api.Op{put("a", ""), put("b", ""), put("c", ""), put("d", ""), put("e", ""), put("f", "")}, api.ErrFull},
		{full, []api.Op{put("x", "")}, api.ErrFull}, {full, []api.Op{put("x", ""), del("k03")}, api.OK}, {full, []api.Op{del("k03"), put("x", "")}, api.OK}, {full, []api.Op{put("x", ""), del("y")}, api.ErrFull}, {full, []api.Op{put("k03", "2")}, api.OK}, {full, []api.Op{put("x", ""), put("k03", "2")}, api.ErrFull}, {full, []api.Op{put("k00", "1")}, api.OK},
		{over, []api.Op{del("k00")}, api.ErrFull}, {over, []api.Op{del("k00"), del("k01")}, api.OK}, {over, []api.Op{put("k00", "1")}, api.ErrFull}, {over, []api.Op{put("k00", "2")}, api.ErrFull},
	} {
		m := c.m.Clone()
		before := m.Scan("", "")
		l, e := m.Do(1, nil, c.ops)
		if e != c.want || e != api.OK && (len(l) != 0 || !slices.Equal(m.Scan("", ""), before)) {
			t.Errorf("%d: %v %d", i, l, e)
		}
	}
	if _, e := full.Plan(1, []api.Op{put("x", "")}, []api.Op{put("y", "")}); e != api.ErrCond {
		t.Error("a condition ahead of the room:", e)
	}
}

// P9.3
func TestTakeDoesWhatEventsTell(t *testing.T) {
	m := New()
	m.Take()
	m.Take(api.Event{Key: "a", Had: true, Old: "7", Has: true, Now: "1"}, api.Event{Key: "b"}, api.Event{Key: "\n", Has: true, Now: "\xff"}, api.Event{Key: "a", Has: true, Now: "2"}, api.Event{Key: "c", Has: true}, api.Event{Key: "c", Now: "1"}, api.Event{Key: "", Has: true, Now: "0"})
	if l := m.Scan("", ""); !slices.Equal(l, []api.Op{put("", "0"), put("\n", "\xff"), put("a", "2")}) {
		t.Error(l)
	}
}

// P9.4
func TestSetMakesJustThese(t *testing.T) {
	var l24, l25 []api.Op
	for i := range 25 {
		l25 = append(l25, put(string(rune('a'+i)), "v"))
	}
	l24 = l25[:24]
	m := New()
	for i, c := range []struct {
		l    []api.Op
		want api.Errno
	}{
		{l24, api.OK}, {l25, api.ErrFull}, {nil, api.OK}, {[]api.Op{put("a", "1")}, api.OK}, {[]api.Op{}, api.OK}, {[]api.Op{put("b", ""), put("a", "1")}, api.OK}, {append(slices.Clone(l24), put("", "")), api.ErrFull},
		{[]api.Op{put("a", ""), put("a", "")}, api.ErrOps}, {[]api.Op{put("", "")}, api.ErrKey}, {[]api.Op{put("a", "\n")}, api.ErrValue}, {[]api.Op{{Key: "a", Value: "1"}}, api.ErrValue}, {[]api.Op{del("a")}, api.ErrOps}, {[]api.Op{put("b", "2"), del("a")}, api.ErrOps}, {[]api.Op{del("a"), put("", "")}, api.ErrKey}, {[]api.Op{del("a"), put("c", "\n")}, api.ErrValue},
		{append(slices.Clone(l24[1:]), del("a")), api.ErrOps}, {append(slices.Clone(l24[1:]), put("b", "")), api.ErrOps}, {l24[:7], api.OK},
	} {
		before := m.Scan("", "")
		e := m.Set(c.l)
		want := slices.SortedFunc(slices.Values(c.l), func(a, b api.Op) int { return strings.Compare(a.Key, b.Key) })
		if c.want != api.OK {
			want = before
		}
		if e != c.want || !slices.Equal(m.Scan("", ""), want) || m.Len() != len(want) {
			t.Errorf("%d: %d, %v", i, e, m.Scan("", ""))
		}
	}
}

// P9.4
func TestCloneGoesItsOwnWay(t *testing.T) {
	m := made(t, 3)
	c := m.Clone()
	m.Take(api.Event{Key: "x", Has: true})
	c.Take(api.Event{Key: "k00"}, api.Event{Key: "k01", Has: true, Now: "7"})
	if v, _ := m.Get("k01"); m.Len() != 4 || c.Len() != 2 || v != "1" {
		t.Error(m.Scan("", ""), c.Scan("", ""))
	}
	if c.Set(nil) != api.OK || m.Len() != 4 || c.Clone().Len() != 0 {
		t.Error("Set of a clone")
	}
}

// P9.4
func TestMapOfNobody(t *testing.T) {
	for _, m := range []*Map{nil, {}} {
		m.Take(api.Event{Key: "a", Has: true, Now: "1"})
		v, ok := m.Get("a")
		if m.Len() != 0 || v != "" || ok || len(m.Scan("", "")) != 0 || m.Clone() != nil || m.Set(nil) != api.ErrNil || m.Set(make([]api.Op, 30)) != api.ErrNil {
			t.Error(m == nil)
		}
		for _, ops := range [][]api.Op{nil, {put("a", "1")}, {put("", "")}} {
			l, e := m.Plan(1, nil, ops)
			l2, e2 := m.Do(1, nil, ops)
			if len(l) != 0 || e != api.ErrNil || len(l2) != 0 || e2 != api.ErrNil {
				t.Error(m == nil, l, e, l2, e2)
			}
		}
	}
}

// P9.4
func TestPutIsItsBytes(t *testing.T) {
	for i, c := range []struct {
		l    []api.Op
		want string
	}{
		{nil, "\x00"}, {[]api.Op{{}}, "\x01\x01\x00\x00\x00"}, {[]api.Op{put("ab", "é"), del("c")}, "\x01\x02\x01\x02ab\x01\x01\x01\x02é\x01\x01c\x00\x00"}, {[]api.Op{{Key: "", Value: "\xff"}, put("", "")}, "\x01\x02\x00\x00\x01\x01\xff\x00\x01\x01\x00"},
	} {
		room := []byte("abcdefghijklmnopqrstuvwxyz")
		got := Put(room[:2], c.l)
		if string(got) != "ab"+c.want || string(room) != "abcdefghijklmnopqrstuvwxyz" {
			t.Errorf("%d: %q", i, got)
		}
		if got := Put(nil, c.l); string(got) != c.want {
			t.Errorf("%d: behind nothing: %q", i, got)
		}
		if r := wire.Read(append(got[2:], 9)); !slices.Equal(Get(r, 2), c.l) || r.Err() != api.OK || r.Left() != 1 {
			t.Errorf("%d: read: %d, %d", i, r.Err(), r.Left())
		}
		for j := range got[:cap(got)] {
			got[:cap(got)][j] = 0
		}
		if string(room) != "abcdefghijklmnopqrstuvwxyz" {
			t.Errorf("%d: Put hands out what came in", i)
		}
	}
}

// P9.4
func TestGetReadsUpToAnError(t *testing.T) {
	key96, value192 := strings.Repeat("k", 96), strings.Repeat("v", 192)
	whole := Put(nil, []api.Op{put("ab", "1"), put("c", "xyz"), del("d")})
	for i, c := range []struct {
		b    []byte
		most int
		want []api.Op
		e    api.Errno
		left int
	}{
		{whole, 3, []api.Op{put("ab", "1"), put("c", "xyz"), del("d")}, api.OK, 0}, {whole, math.MaxInt, []api.Op{put("ab", "1"), put("c", "xyz"), del("d")}, api.OK, 0}, {whole, 2, nil, api.ErrRange, len(whole)}, {whole, 0, nil, api.ErrRange, len(whole)}, {whole, -1, nil, api.ErrRange, len(whole)}, {[]byte{0}, -1, nil, api.ErrRange, 1}, {[]byte{0}, 0, nil, api.OK, 0},
		{nil, 3, nil, api.ErrShort, 0}, {[]byte{9}, 3, nil, api.ErrForm, 1}, {whole[:2], 3, []api.Op{{}}, api.ErrShort, 0}, {whole[:4], 3, []api.Op{{}}, api.ErrShort, 2}, {whole[:6], 3, []api.Op{{Key: "ab"}}, api.ErrShort, 0}, {whole[:8], 3, []api.Op{{Key: "ab", Has: true}}, api.ErrShort, 0}, {whole[:10], 3, []api.Op{{Key: "ab", Has: true}}, api.ErrShort, 2}, {whole[:11], 3, []api.Op{put("ab", "1"), {}}, api.ErrShort, 0}, {whole[:16], 3, []api.Op{put("ab", "1"), {Key: "c", Has: true}}, api.ErrShort, 0},
		{Put(nil, []api.Op{put(key96, value192)}), 1, []api.Op{put(key96, value192)}, api.OK, 0}, {Put(nil, []api.Op{put("a", ""), put(key96+"k", "")}), 2, []api.Op{put("a", ""), {}}, api.ErrLong, 102}, {Put(nil, []api.Op{put("a", value192+"v"), put("b", "")}), 2, []api.Op{{Key: "a", Has: true}}, api.ErrLong, 201},
		{[]byte("\x01\x01\x01\x01a\x01\x02\x00"), 1, []api.Op{{Key: "a"}}, api.ErrForm, 3}, {wire.Number(nil, 1<<62), math.MaxInt, []api.Op{{}}, api.ErrShort, 0},
	} {
		r := wire.Read(c.b)
		if got := Get(r, c.most); !slices.Equal(got, c.want) || r.Err() != c.e || r.Left() != c.left {
			t.Errorf("%d: %v %d, %d left", i, got, r.Err(), r.Left())
		}
		if c.e != api.OK && len(Get(r, 9)) != 0 {
			t.Errorf("%d: behind an error", i)
		}
	}
	if len(Get(nil, 5)) != 0 || len(Get(&wire.Reader{}, 5)) != 0 {
		t.Error("of nobody")
	}
}

// P9.4
func TestThereAndBack(t *testing.T) {
	r := rand.New(rand.NewSource(1))
	for range 5000 {
		l := anyOps(r, 8)
		b := Put([]byte("ab"), l)
		rd := wire.Read(b[2:])
		if got := Get(rd, 8); !slices.Equal(got, l) || rd.End() != api.OK {
			t.Fatalf("%v: %v %d", l, got, rd.End())
		}
		b = b[2 : 2+r.Intn(len(b)-1)]
		rd = wire.Read(b)
		if got := Get(rd, 8); rd.End() == api.OK && string(Put(nil, got)) != string(b) {
			t.Fatalf("%x: %v", b, got)
		}
	}
}

// P9.1 to P9.5, P9.7
func TestLivesAreTheModels(t *testing.T) {
	r := rand.New(rand.NewSource(2))
	counts := map[api.Errno]int{}
	for range 200 {
		m, w := New(), model{}
		for pos := range 100 {
			conds, ops := anyOps(r, 1), anyOps(r, 6)
			if r.Intn(2) == 0 {
				conds = w.fitting(r)
			}
			var got, want []api.Event
			var e, we api.Errno
			switch r.Intn(10) {
			case 0:
				ops = anyOps(r, 26)
				e = m.Set(ops)
				w, we = w.set(ops)
			case 1:
				_, want, we = w.do(pos, conds, ops)
				got, e = m.Plan(pos, conds, ops)
				if e == api.OK {
					m.Take(got...)
					w = w.take(want)
				}
			case 2:
				m = m.Clone()
			default:
				got, e = m.Do(pos, conds, ops)
				w, want, we = w.do(pos, conds, ops)
			}
			counts[e]++
			from, to := anyKey(r), one(r, "", anyKey(r))
			k := anyKey(r)
			v, ok := m.Get(k)
			if _, there := w[k]; e != we || !slices.Equal(got, want) || m.Len() != len(w) || !slices.Equal(m.Scan("", ""), w.scan("", "")) || !slices.Equal(m.Scan(from, to), w.scan(from, to)) || v != w[k] || ok != there {
				t.Fatalf("%v %v: %v %d, not %v %d; %v, not %v", conds, ops, got, e, want, we, m.Scan("", ""), w)
			}
		}
	}
	for _, e := range []api.Errno{api.OK, api.ErrCond, api.ErrFull, api.ErrOps, api.ErrKey, api.ErrValue} {
		if counts[e] < 100 {
			t.Error(counts)
		}
	}
}

// P9.5, P9.6
func TestWhoTakesAllEventsHasTheMap(t *testing.T) {
	r := rand.New(rand.NewSource(3))
	for range 200 {
		m, taker := New(), New()
		var told []api.Event
		for pos := range 40 {
			ops := anyOps(r, 6)
			l, e := m.Do(pos, nil, ops)
			taker.Take(l...)
			told = append(told, l...)
			if !slices.Equal(taker.Scan("", ""), m.Scan("", "")) {
				t.Fatal(pos)
			}
			if again, e2 := m.Do(pos+1, nil, ops); e == api.OK && (len(again) != 0 || e2 != api.OK) {
				t.Fatalf("%v again: %v %d", ops, again, e2)
			}
		}
		late := New()
		late.Take(told...)
		if !slices.Equal(late.Scan("", ""), m.Scan("", "")) {
			t.Fatal("all at once")
		}
	}
}

// P9.8
func TestOrderOfUnlikeKeys(t *testing.T) {
	r := rand.New(rand.NewSource(4))
	for range 3000 {
		m, ops := New(), anyOps(r, 6)
		m.Do(1, nil, anyOps(r, 6))
		other := m.Clone()
		shuffled := slices.Clone(ops)
		r.Shuffle(len(ops), func(i, j int) { shuffled[i], shuffled[j] = shuffled[j], shuffled[i] })
		_, e := m.Do(2, nil, ops)
		_, e2 := other.Do(2, nil, shuffled)
		if (e == api.OK) != (e2 == api.OK) || !slices.Equal(m.Scan("", ""), other.Scan("", "")) {
			t.Fatalf("%v, %v: %d %d", ops, shuffled, e, e2)
		}
	}
}

// What is handed in is not changed and not kept; what comes out is new.
func TestMemory(t *testing.T) {
	m := New()
	room := []api.Op{put("a", "1"), put("b", "2"), put("c", "3")}
	was := slices.Clone(room)
	l, _ := m.Do(1, room[2:2], room[:2])
	m.Set(room[:2])
	Put(nil, room[:2])
	if !slices.Equal(room, was) {
		t.Error(room)
	}
	for i := range room {
		room[i] = put("x", "x")
	}
	again, _ := m.Plan(2, nil, []api.Op{del("a"), del("b")})
	for i := range l[:cap(l)] {
		l[:cap(l)][i] = api.Event{Key: "y"}
	}
	for i := range again[:cap(again)] {
		again[:cap(again)][i] = api.Event{Key: "y"}
	}
	if got := m.Scan("", ""); !slices.Equal(got, was[:2]) {
		t.Error(got)
	}
}
