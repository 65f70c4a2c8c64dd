package filter

import (
	"bytes"
	"math"
	"math/rand"
	"slices"
	"strings"
	"testing"

	"tidemark/api"
	"tidemark/wire"
)

func prefix(s string) api.Filter         { return api.Filter{Kind: api.FPrefix, Text: s} }
func equal(name, text string) api.Filter { return api.Filter{Kind: api.FEqual, Name: name, Text: text} }
func inv(f api.Filter) api.Filter        { return api.Filter{Kind: api.FNot, Kids: []api.Filter{f}} }
func and(l ...api.Filter) api.Filter     { return api.Filter{Kind: api.FAnd, Kids: l} }
func or(l ...api.Filter) api.Filter      { return api.Filter{Kind: api.FOr, Kids: l} }

var put0 = api.Filter{Kind: api.FPut}

// nots is so many FNots around a filter.
func nots(n int, f api.Filter) api.Filter {
	for range n {
		f = inv(f)
	}
	return f
}

// P7.1
func TestCheckOfOnePart(t *testing.T) {
	none, wrong := api.OK, api.ErrFilter
	long24, long25 := strings.Repeat("é", 24), strings.Repeat("é", 25)
	long48, long49 := strings.Repeat("€", 48), strings.Repeat("€", 49)
	kid := []api.Filter{{}}
	for i, c := range []struct {
		f    api.Filter
		want api.Errno
	}{
		{api.Filter{}, none}, {api.Filter{Kids: []api.Filter{}}, none}, {api.Filter{Name: "a"}, wrong}, {api.Filter{Text: "a"}, wrong}, {api.Filter{Kids: kid}, wrong},
		{prefix("a"), none}, {prefix(""), wrong}, {prefix(long24), none}, {prefix(long25), wrong}, {prefix("\n"), wrong}, {prefix("\xff"), wrong},
		{api.Filter{Kind: api.FPrefix, Text: "a", Name: "a"}, wrong}, {api.Filter{Kind: api.FPrefix, Text: "a", Kids: kid}, wrong},
		{equal("a", ""), none}, {equal("a", "a:b c"), none}, {equal("abcdefgh", long48), none}, {equal("a", long49), wrong}, {equal("a", "\x7f"), wrong},
		{equal("", "a"), wrong}, {equal("abcdefghi", "a"), wrong}, {equal("A", "a"), wrong}, {equal("a1", ""), wrong},
		{api.Filter{Kind: api.FEqual, Name: "a", Kids: kid}, wrong},
		{put0, none}, {api.Filter{Kind: api.FPut, Name: "a"}, wrong}, {api.Filter{Kind: api.FPut, Text: "a"}, wrong}, {api.Filter{Kind: api.FPut, Kids: kid}, wrong},
		{inv(put0), none}, {api.Filter{Kind: api.FNot}, wrong}, {api.Filter{Kind: api.FNot, Kids: []api.Filter{{}, {}}}, wrong},
		{api.Filter{Kind: api.FNot, Kids: kid, Name: "a"}, wrong}, {api.Filter{Kind: api.FNot, Kids: kid, Text: "a"}, wrong},
		{and(), none}, {or(), none}, {and(put0), none}, {or(put0, put0), none},
		{api.Filter{Kind: api.FAnd, Name: "a"}, wrong}, {api.Filter{Kind: api.FAnd, Text: "a"}, wrong},
		{api.Filter{Kind: api.FOr, Name: "a"}, wrong}, {api.Filter{Kind: api.FOr, Text: "a"}, wrong},
		{api.Filter{Kind: -1}, wrong}, {api.Filter{Kind: 7}, wrong}, {api.Filter{Kind: math.MaxInt}, wrong}, {api.Filter{Kind: math.MinInt}, wrong}, {api.Filter{Kind: 256}, wrong},
	} {
		if got := Check(c.f); got != c.want {
			t.Errorf("%d: %v: %d", i, c.f, got)
		}
		if got := Check(and(put0, c.f)); got != c.want {
			t.Errorf("%d: as a kid: %d", i, got)
		}
		if c.want != none && (Holds(c.f, api.Event{Key: "a", Has: true}) || len(Pass(c.f, api.Event{})) != 0) {
			t.Errorf("%d: holds", i)
		}
	}
}

// P7.1
func TestCheckTellsTheFirstPart(t *testing.T) {
	bad := api.Filter{Kind: 9}
	many := func(n int, f api.Filter) []api.Filter { return slices.Repeat([]api.Filter{f}, n) }
	for i, c := range []struct {
		f    api.Filter
		want api.Errno
	}{
		{nots(5, put0), api.OK}, {nots(6, put0), api.ErrDeep}, {nots(40, put0), api.ErrDeep}, {nots(5, bad), api.ErrFilter}, {nots(6, bad), api.ErrDeep},
		{and(many(23, put0)...), api.OK}, {and(many(24, put0)...), api.ErrDeep}, {and(many(100000, put0)...), api.ErrDeep},
		{and(append(many(23, put0), bad)...), api.ErrDeep}, {and(append(many(22, put0), bad)...), api.ErrFilter},
		{and(append(many(22, put0), bad, put0)...), api.ErrFilter}, {and(append([]api.Filter{bad}, many(24, put0)...)...), api.ErrFilter},
		{or(nots(5, put0), bad), api.ErrDeep}, {or(bad, nots(5, put0)), api.ErrFilter}, {or(nots(4, put0), bad), api.ErrFilter},
		{or(and(many(11, put0)...), and(many(10, put0)...)), api.OK}, {or(and(many(11, put0)...), and(many(11, put0)...)), api.ErrDeep},
		{or(and(many(12, put0)...), or(many(9, put0)...), put0), api.ErrDeep},
		{api.Filter{Kind: api.FNot, Kids: many(30, put0)}, api.ErrFilter}, {nots(5, and()), api.OK}, {nots(5, and(put0)), api.ErrDeep},
		{nots(5, api.Filter{Kind: api.FNot}), api.ErrFilter}, {nots(5, prefix("")), api.ErrFilter},
	} {
		if got := Check(c.f); got != c.want {
			t.Errorf("%d: %d, not %d", i, got, c.want)
		}
	}
}

// What is made by hand may stand in itself.
func TestFilterInItself(t *testing.T) {
	for _, kind := range []int{api.FNot, api.FAnd, api.FOr, api.FAll} {
		kids := make([]api.Filter, 1)
		f := api.Filter{Kind: kind, Kids: kids}
		kids[0] = f
		want := api.ErrDeep
		if kind == api.FAll {
			want = api.ErrFilter
		}
		if e := Check(f); e != want || Holds(f, api.Event{}) {
			t.Errorf("%d: %d", kind, e)
		}
		if b, e := Put(f); e != want || len(b) != 0 {
			t.Errorf("%d: %x, %d", kind, b, e)
		}
	}
}

// P7.1
func TestHoldsByKind(t *testing.T) {
	was := api.Event{Pos: 3, Key: "ab", Had: true, Old: "n:1"}
	is := api.Event{Pos: 3, Key: "ab", Has: true, Now: "n:1 m:2 n:3"}
	odd := api.Event{Key: "ab", Now: "n:1"} // it has not what Now tells
	empty := api.Event{Key: "b", Has: true, Now: "n:"}
	for i, c := range []struct {
		f    api.Filter
		want [4]bool
	}{
		{api.Filter{}, [4]bool{true, true, true, true}},
		{prefix("a"), [4]bool{true, true, true, false}}, {prefix("ab"), [4]bool{true, true, true, false}}, {prefix("abc"), [4]bool{}}, {prefix("b"), [4]bool{3: true}},
		{equal("n", "1"), [4]bool{1: true}}, {equal("n", "3"), [4]bool{}}, {equal("m", "2"), [4]bool{1: true}}, {equal("m", ""), [4]bool{}}, {equal("n", ""), [4]bool{3: true}},
		{put0, [4]bool{false, true, false, true}}, {inv(put0), [4]bool{true, false, true, false}},
		{and(), [4]bool{true, true, true, true}}, {or(), [4]bool{}},
		{and(prefix("a"), put0), [4]bool{1: true}}, {or(prefix("b"), inv(put0)), [4]bool{true, false, true, true}},
		{and(put0, inv(put0)), [4]bool{}}, {or(put0, inv(put0)), [4]bool{true, true, true, true}},
	} {
		for j, e := range []api.Event{was, is, odd, empty} {
			if got := Holds(c.f, e); got != c.want[j] {
				t.Errorf("%d: of event %d: %t", i, j, got)
			}
		}
	}
	if Holds(prefix("é"), api.Event{Key: "\xc3"}) || !Holds(prefix("é"), api.Event{Key: "éa"}) {
		t.Error("by bytes")
	}
}

// P7.1
func TestAnyFilterIsTheModels(t *testing.T) {
	r := rand.New(rand.NewSource(7))
	counts := map[api.Errno]int{}
	for range 20000 {
		f := anyFilter(r, 1+r.Intn(7), []float64{0, 0, 0.02, 0.3}[r.Intn(4)])
		e := Check(f)
		counts[e]++
		if want := modelCheck(f); e != want {
			t.Fatalf("%v: %d, not %d", f, e, want)
		}
		l := anyEvents(r)
		var want []api.Event
		for _, v := range l {
			holds := e == api.OK && modelHolds(f, v)
			if Holds(f, v) != holds {
				t.Fatalf("%v of %v: not %t", f, v, holds)
			}
			if holds {
				want = append(want, v)
			}
		}
		if got := Pass(f, l...); !slices.Equal(got, want) {
			t.Fatalf("%v: %v, not %v", f, got, want)
		}
	}
	if counts[api.OK] < 5000 || counts[api.ErrFilter] < 1000 || counts[api.ErrDeep] < 500 {
		t.Error(counts)
	}
}

// P7.1: what passes is new memory, and nothing that is handed in is changed.
func TestPassIsNewMemory(t *testing.T) {
	l := []api.Event{{Key: "a"}, {Key: "b"}, {Key: "ab"}, {Key: "c"}}
	kids := append(make([]api.Filter, 0, 4), prefix("a"))
	f := and(kids...)
	got := Pass(f, l[:3]...)
	for i := range got[:cap(got)] {
		got[:cap(got)][i].Key = "x"
	}
	if l[0].Key != "a" || l[2].Key != "ab" || l[3].Key != "c" {
		t.Error("Pass hands out what came in")
	}
	if len(kids[:4][1].Kids) != 0 || kids[:4][1].Kind != 0 {
		t.Error("behind the kids")
	}
	if got := Pass(api.Filter{}); len(got) != 0 {
		t.Error(got)
	}
}

// P7.2
func TestPutIsItsBytes(t *testing.T) {
	for i, c := range []struct {
		f    api.Filter
		want string
	}{
		{api.Filter{}, "\x00\x00\x00\x00"}, {put0, "\x01\x03\x00\x00\x00"}, {and(), "\x01\x05\x00\x00\x00"},
		{prefix("ab"), "\x01\x01\x00\x01\x02ab\x00"}, {equal("n", ""), "\x01\x02\x01\x01n\x00\x00"},
		{inv(equal("n", "é")), "\x01\x04\x00\x00\x01\x01\x01\x02\x01\x01n\x01\x02é\x00"},
		{or(put0, and(put0), api.Filter{}), "\x01\x06\x00\x00\x01\x03" + "\x01\x03\x00\x00\x00" + "\x01\x05\x00\x00\x01\x01\x01\x03\x00\x00\x00" + "\x00\x00\x00\x00"},
	} {
		if b, e := Put(c.f); string(b) != c.want || e != api.OK {
			t.Errorf("%d: %x, %d", i, b, e)
		}
	}
	for _, f := range []api.Filter{{Kind: 9}, nots(6, put0), and(put0, prefix(""))} {
		if b, e := Put(f); len(b) != 0 || e != Check(f) || e == api.OK {
			t.Errorf("%v: %x, %d", f, b, e)
		}
	}
}

// P7.2
func TestGetRefuses(t *testing.T) {
	whole, _ := Put(or(inv(equal("n", "1")), prefix("a")))
	for n := range whole {
		if f, e := Get(whole[:n]); e != api.ErrFilter || !alike(f, api.Filter{}) {
			t.Errorf("%d bytes: %v, %d", n, f, e)
		}
	}
	wrong := [][]byte{
		nil, {}, {9}, append(bytes.Clone(whole), 0), append(bytes.Clone(whole), whole...),
		modelPut(api.Filter{Kind: 7}), modelPut(api.Filter{Name: "a"}), modelPut(prefix("")), modelPut(equal("A", "")), modelPut(nots(6, put0)),
		modelPut(equal("a", strings.Repeat("x", 49))), modelPut(equal("a", strings.Repeat("x", 1000))), modelPut(and(slices.Repeat([]api.Filter{put0}, 24)...)),
		[]byte("\x02\x00\x03\x00\x00\x00"), []byte("\x01\x00\x00\x00\x00"), // 3 and 0 in other forms
		wire.Numbers(nil, 5, 0, 0, 1<<62), wire.Numbers(nil, 1<<62, 0, 0, 0), wire.Numbers(nil, 5, 0, 0, 2, 3, 0, 0, 0),
		bytes.Repeat(wire.Numbers(nil, 4, 0, 0, 1), 100000), wire.Numbers(nil, 4, 0, 0, 0), wire.Numbers(nil, 1, 0, 1<<40),
	}
	for i, b := range wrong {
		if f, e := Get(b); e != api.ErrFilter || !alike(f, api.Filter{}) {
			t.Errorf("%d: %v, %d", i, f, e)
		}
		if f, ok := Take(wire.Read(b)); (i < 3 || i > 4) && (ok || !alike(f, api.Filter{})) {
			t.Errorf("%d: Take: %v, %t", i, f, ok)
		}
	}
}

// P7.2
func TestTakeLeavesWhatStandsBehind(t *testing.T) {
	fs := []api.Filter{{}, and(prefix("a"), put0), inv(equal("n", strings.Repeat("\U0010FFFF", 48))), prefix(strings.Repeat("€", 24))}
	b := []byte{1, 200}
	for _, f := range fs {
		p, _ := Put(f)
		b = append(b, p...)
	}
	b = append(b, 7, 9)
	r := wire.Read(b)
	if r.Number() != 200 {
		t.Fatal(r.Err())
	}
	for i, f := range fs {
		if got, ok := Take(r); !ok || !alike(got, f) {
			t.Errorf("%d: %v, %t", i, got, ok)
		}
	}
	if r.Err() != api.OK || r.Left() != 2 {
		t.Errorf("%d, %d left", r.Err(), r.Left())
	}
	if f, ok := Take(r); ok || !alike(f, api.Filter{}) {
		t.Error(f, ok)
	}
	if f, ok := Take(r); ok || !alike(f, api.Filter{}) {
		t.Error("of a reader with an error:", f, ok)
	}
	if _, ok := Take(nil); ok {
		t.Error("of nil")
	}
	if _, ok := Take(&wire.Reader{}); ok {
		t.Error("of a plain one")
	}
}

// P7.2, P7.4
func TestThereAndBack(t *testing.T) {
	r := rand.New(rand.NewSource(8))
	read := 0
	for range 20000 {
		f := anyFilter(r, 1+r.Intn(5), []float64{0, 0, 0.05}[r.Intn(3)])
		b, e := Put(f)
		if want := modelCheck(f); e != want || e == api.OK && !bytes.Equal(b, modelPut(f)) || e != api.OK && len(b) != 0 {
			t.Fatalf("%v: %x, %d", f, b, e)
		}
		if e == api.OK {
			if got, e := Get(b); e != api.OK || !alike(got, f) {
				t.Fatalf("%v: %v, %d", f, got, e)
			}
		}
		b = spoiled(r, modelPut(f))
		got, e := Get(b)
		if e != api.OK && (e != api.ErrFilter || !alike(got, api.Filter{})) {
			t.Fatalf("%x: %v, %d", b, got, e)
		}
		if e == api.OK {
			read++
			if again, e := Put(got); e != api.OK || !bytes.Equal(again, b) {
				t.Fatalf("%x, put again: %x, %d", b, again, e)
			}
		}
	}
	if read < 1000 {
		t.Error(read)
	}
}

// What is got of bytes does not share them, nor with what is got again.
func TestGetIsNewMemory(t *testing.T) {
	b, _ := Put(or(and(prefix("a"), put0, put0), equal("n", "1")))
	f, _ := Get(b)
	g, _ := Get(b)
	was := clone(f)
	for i := range b {
		b[i] = 0xff
	}
	if !alike(f, was) {
		t.Error("the bytes are kept")
	}
	all := f.Kids[0].Kids
	all = append(all, inv(put0))
	all[0] = inv(put0)
	f.Kids = append(f.Kids, put0)
	f.Kids[1] = put0
	if !alike(g, was) {
		t.Error("two answers share kids")
	}
}

// P7.3
func TestLogic(t *testing.T) {
	r := rand.New(rand.NewSource(9))
	for range 5000 {
		f, g, v := anyFilter(r, 1, 0), anyFilter(r, 1, 0), anyEvent(r)
		if Holds(inv(inv(f)), v) != Holds(f, v) || Holds(inv(f), v) == Holds(f, v) {
			t.Fatalf("not of %v, %v", f, v)
		}
		if Holds(inv(and(f, g)), v) != Holds(or(inv(f), inv(g)), v) || Holds(inv(or(f, g)), v) != Holds(and(inv(f), inv(g)), v) {
			t.Fatalf("%v, %v, %v", f, g, v)
		}
		if !Holds(and(), v) || Holds(or(), v) {
			t.Fatal(v)
		}
	}
}

// P7.5
func TestPassing(t *testing.T) {
	r := rand.New(rand.NewSource(10))
	for range 5000 {
		f, a, b := anyFilter(r, 3, 0), anyEvents(r), anyEvents(r)
		pa, pb := Pass(f, a...), Pass(f, b...)
		if !slices.Equal(Pass(f, pa...), pa) {
			t.Fatalf("%v of %v", f, a)
		}
		if !slices.Equal(Pass(f, append(slices.Clone(a), b...)...), append(pa, pb...)) {
			t.Fatalf("%v of %v, %v", f, a, b)
		}
	}
}

// P7.6
func TestKidsMayBe(t *testing.T) {
	r := rand.New(rand.NewSource(11))
	for range 5000 {
		f := anyFilter(r, 4, 0.1)
		if Check(f) != api.OK {
			continue
		}
		for _, k := range f.Kids {
			if Check(k) != api.OK {
				t.Fatalf("%v of %v", k, f)
			}
		}
	}
}
