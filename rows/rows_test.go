package rows

import (
	"math"
	"math/rand"
	"reflect"
	"testing"

	"tidemark/api"
)

// log is a base, and rows of such terms behind it.
func log(index, term int, terms ...int) api.Log {
	return api.Log{Index: index, Term: term, Rows: entries(index+1, terms...)}
}

// entries are some of such terms from an index on.
func entries(index int, terms ...int) []api.Entry {
	var l []api.Entry
	for i, term := range terms {
		l = append(l, api.Entry{Index: index + i, Term: term, Data: []byte{byte(index + i), byte(term)}})
	}
	return l
}

// noLogs may not be.
func noLogs() []api.Log {
	long := log(0, 0, 1)
	long.Rows[0].Data = make([]byte, api.MaxData+1)
	gap, twice, back := log(0, 0, 1, 1, 1), log(0, 0, 1, 1), log(3, 1, 1)
	gap.Rows = append(gap.Rows[:1], gap.Rows[2])
	twice.Rows[1].Index = 1
	back.Rows[0].Index = 3
	return []api.Log{
		log(-1, 0), log(0, -1), log(most+1, 0), log(0, most+1), log(math.MinInt, math.MinInt), log(math.MaxInt, math.MaxInt), log(math.MinInt, 0, 1), log(math.MaxInt, 0, 1), log(-1, 0, 1), log(most, 1, 1), log(most-1, 1, 1, 1), log(0, 0, 0), log(0, 0, -1), log(0, 2, 1), log(0, 0, 1, 2, 1), log(0, 0, most+1), log(0, 0, 1, most+1), log(0, most, most+1), log(0, 0, math.MaxInt), log(0, 0, 1, 0), log(5, 5, 6, 5),
		long, gap, twice, back, {Index: 2, Term: 1, Rows: entries(2, 1)}, {Index: 2, Term: 1, Rows: entries(4, 1)}, {Index: 2, Term: 1, Rows: entries(1, 1)}, {Rows: entries(0, 1)}, {Rows: entries(math.MinInt, 1)}, {Rows: entries(math.MaxInt, 1)}, {Rows: make([]api.Entry, 5)},
	}
}

// is fails unless a Join is so, by the model, too.
func is(t *testing.T, l api.Log, index, term int, more []api.Entry, want joined) {
	t.Helper()
	out, cut, fresh, ok := Join(l, index, term, more...)
	if !alikeLogs(out, want.out) || cut != want.cut || !alike(fresh, want.fresh) || ok != want.ok {
		t.Errorf("%v: %d %d %v: %v %d %v %t, not %v", l, index, term, more, out, cut, fresh, ok, want)
	}
	if m := modelJoin(l, index, term, more); Check(l) == api.OK && (!alikeLogs(m.out, want.out) || m.cut != want.cut || !alike(m.fresh, want.fresh) || m.ok != want.ok) {
		t.Errorf("the model: %v: %d %d %v: %v, not %v", l, index, term, more, m, want)
	}
}

// The document's example.
func TestExample(t *testing.T) {
	l := log(0, 0, 1, 1, 2)
	is(t, l, 2, 1, entries(3, 3), joined{log(0, 0, 1, 1, 3), 3, entries(3, 3), true})
	is(t, l, 3, 1, nil, joined{out: l})
	is(t, l, 1, 1, entries(2, 1), joined{out: l, ok: true})
	if Hint(l, 3) != 3 || Hint(l, 2) != 1 || Hint(l, 9) != 4 || !Fresh(l, 3, 2) || Fresh(l, 9, 1) {
		t.Error(Hint(l, 3), Hint(l, 2), Hint(l, 9))
	}
}

// P18.1
func TestCheck(t *testing.T) {
	long := log(0, 0, 1)
	long.Rows[0].Data = make([]byte, api.MaxData)
	for i, l := range []api.Log{{}, {Rows: []api.Entry{}}, log(most, most), log(0, 0, 1), log(0, 0, most), log(most-1, most, most), log(most-2, 0, 1, 2), log(7, 3, 3, 3, 4, 9), log(0, 5, 5), long} {
		if e := Check(l); e != api.OK || !modelMay(l) {
			t.Error(i, e)
		}
	}
	for i, l := range noLogs() {
		if e := Check(l); e != api.ErrRows || modelMay(l) {
			t.Error(i, e)
		}
	}
}

// P18.1 to P18.3: of what may not be nothing is told.
func TestOfLogsThatMayNotBe(t *testing.T) {
	for i, l := range noLogs() {
		for _, p := range append(places(l), place{0, 0}, place{1, 1}, place{most + 9, most + 9}, place{math.MaxInt, math.MaxInt}, place{math.MinInt, math.MinInt}) {
			index, term := Last(l)
			of, ok := Term(l, p.index)
			if index != 0 || term != 0 || of != 0 || ok || len(From(l, p.index, 9)) != 0 || Hint(l, p.index) != 0 || Fresh(l, p.index, p.term) {
				t.Error(i, p)
			}
			if out := Cut(l, p.index, p.term); !alikeLogs(out, api.Log{Index: p.index, Term: p.term}) {
				t.Error(i, p, out)
			}
			is(t, l, p.index, p.term, nil, joined{})
			is(t, l, p.index, p.term, entries(p.index+1, p.term), joined{})
		}
	}
}

// P18.1
func TestLastTermAndFrom(t *testing.T) {
	for _, c := range []struct {
		l    api.Log
		want place
	}{{api.Log{}, place{}}, {log(7, 3), place{7, 3}}, {log(7, 3, 3, 5), place{9, 5}}, {log(most, most), place{most, most}}, {log(most-1, 2, most), place{most, most}}} {
		if index, term := Last(c.l); (place{index, term}) != c.want {
			t.Error(c.l, index, term)
		}
	}
	l := log(7, 3, 3, 5)
	for index, want := range map[int]int{7: 3, 8: 3, 9: 5, 6: 0, 10: 0, 0: 0, -1: 0, math.MaxInt: 0, math.MinInt: 0, math.MinInt + 7: 0, math.MinInt + 8: 0} {
		if term, ok := Term(l, index); term != want || ok != (want > 0) {
			t.Error(index, term, ok)
		}
	}
	if term, ok := Term(api.Log{}, 0); term != 0 || !ok {
		t.Error("the base's term may be 0:", term, ok)
	}
	for i, c := range []struct {
		index, most int
		want        []api.Entry
	}{
		{8, 9, l.Rows}, {8, 2, l.Rows}, {8, 1, l.Rows[:1]}, {9, 1, l.Rows[1:]}, {9, math.MaxInt, l.Rows[1:]}, {8, 0, nil}, {8, -1, nil}, {8, math.MinInt, nil}, {7, 9, nil}, {6, 9, nil}, {10, 9, nil}, {0, 9, nil}, {-1, 9, nil}, {math.MaxInt, 9, nil}, {math.MinInt, 9, nil}, {math.MinInt + 8, 9, nil},
	} {
		if got := From(l, c.index, c.most); !alike(got, c.want) || !alike(modelFrom(l, c.index, c.most), c.want) {
			t.Errorf("%d: %v", i, got)
		}
	}
}

// P18.2: when entries are not of this log.
func TestJoinRefuses(t *testing.T) {
	l := log(5, 3, 3, 4, 6)
	long := entries(9, 6)
	long[0].Data = make([]byte, api.MaxData+1)
	for _, c := range []struct {
		index, term int
		more        []api.Entry
	}{
		{8, -1, nil}, {8, most + 1, nil}, {4, -1, nil}, {4, most + 1, nil}, {4, math.MinInt, nil}, {8, 5, nil}, {8, 7, nil}, {8, 0, nil}, {5, 2, nil}, {5, 0, nil}, {6, 4, nil}, {9, 6, nil}, {9, 0, nil}, {math.MaxInt, 6, nil}, {most, 6, nil}, {9, 6, entries(10, 6)}, {7, 6, entries(8, 6)}, {6, 2, entries(7, 4)},
		{8, 6, entries(8, 6)}, {8, 6, entries(10, 6)}, {8, 6, entries(9, 5)}, {8, 6, entries(9, 7, 6)}, {8, 6, entries(9, most+1)}, {8, 6, long}, {4, 0, entries(5, 0)}, {-1, 0, entries(0, 1)}, {-2, 0, entries(-1, 1)}, {math.MinInt, 0, entries(math.MinInt+1, 1)}, {math.MinInt, 0, entries(1, 1)}, {8, 6, append(entries(9, 6), entries(11, 6)...)}, {2, 1, entries(3, 1, 1, 3, 9, 8)},
		{3, 1, entries(4, 1, 1, 2)}, {4, 0, entries(5, 1, 2)}, {4, 2, entries(5, 2, 2, 9)}, {0, 0, entries(1, 1, 1, 1, 1, 1, 1)},
	} {
		is(t, l, c.index, c.term, c.more, joined{out: l})
	}
	end := log(most-1, 1, 1)
	is(t, end, most, 1, entries(most+1, 1), joined{out: end})
	is(t, log(most, 1), most, 1, entries(most+1, 1), joined{out: log(most, 1)})
}

// P18.2: when they bring nothing, and when they do.
func TestJoinBrings(t *testing.T) {
	l := log(5, 3, 3, 4, 6)
	for _, c := range []struct {
		index, term int
		more        []api.Entry
	}{
		{8, 6, nil}, {5, 3, nil}, {6, 3, nil}, {4, 9, nil}, {4, 0, nil}, {-7, 0, nil}, {math.MinInt, most, nil}, {5, 3, entries(6, 3)}, {5, 3, entries(6, 3, 4, 6)}, {6, 3, entries(7, 4)}, {4, 3, entries(5, 3, 3)}, {4, 0, entries(5, 1)}, {4, 9, entries(5, 9)}, {0, 0, entries(1, 1, 2, 2, 2, 2)}, {2, 3, entries(3, 3, 3, 3, 3, 4, 6)}, {7, 4, entries(8, 6)},
	} {
		is(t, l, c.index, c.term, c.more, joined{out: l, ok: true})
	}
	for _, c := range []struct {
		index, term int
		more        []api.Entry
		first, cut  int
		want        api.Log
	}{
		{8, 6, entries(9, 6), 0, 0, log(5, 3, 3, 4, 6, 6)}, {8, 6, entries(9, 6, 9), 0, 0, log(5, 3, 3, 4, 6, 6, 9)}, {7, 4, entries(8, 6, 6), 1, 0, log(5, 3, 3, 4, 6, 6)}, {7, 4, entries(8, 4), 0, 8, log(5, 3, 3, 4, 4)}, {7, 4, entries(8, 5, 5, 7), 0, 8, log(5, 3, 3, 4, 5, 5, 7)}, {5, 3, entries(6, 5), 0, 6, log(5, 3, 5)}, {5, 3, entries(6, 3, 5), 1, 7, log(5, 3, 3, 5)}, {5, 3, entries(6, most), 0, 6, log(5, 3, most)},
		{4, 3, entries(5, 3, 7), 1, 6, log(5, 3, 7)}, {3, 0, entries(4, 1, 1, 3, 3), 3, 7, log(5, 3, 3, 3)}, {3, 9, entries(4, 9, 9, 9), 2, 6, log(5, 3, 9)}, {4, 4, entries(5, 4, 4), 1, 6, log(5, 3, 4)}, {0, 0, entries(1, 1, 1, 1, 1, 3, 3, 4, 6, 8), 8, 0, log(5, 3, 3, 4, 6, 8)},
	} {
		is(t, l, c.index, c.term, c.more, joined{c.want, c.cut, c.more[c.first:], true})
	}
	is(t, log(5, 3), 5, 3, entries(6, 3), joined{log(5, 3, 3), 0, entries(6, 3), true})
	is(t, api.Log{}, 0, 0, entries(1, 1), joined{log(0, 0, 1), 0, entries(1, 1), true})
	is(t, log(most-1, 1), most-1, 1, entries(most, 2), joined{log(most-1, 1, 2), 0, entries(most, 2), true})
	data := entries(1, 1)
	data[0].Data = make([]byte, api.MaxData)
	is(t, api.Log{}, 0, 0, data, joined{api.Log{Rows: data}, 0, data, true})
	other := entries(6, 3, 4)
	other[0].Data = []byte("other")
	is(t, l, 5, 3, other, joined{out: l, ok: true})
}

// P18.3
func TestHint(t *testing.T) {
	for i, c := range []struct {
		l           api.Log
		index, want int
	}{
		{log(5, 3, 3, 3, 4, 6, 6), 10, 9}, {log(5, 3, 3, 3, 4, 6, 6), 9, 9}, {log(5, 3, 3, 3, 4, 6, 6), 8, 8}, {log(5, 3, 3, 3, 4, 6, 6), 7, 6}, {log(5, 3, 3, 3, 4, 6, 6), 6, 6}, {log(5, 3, 3, 3, 4, 6, 6), 5, 6}, {log(5, 3, 3, 3, 4, 6, 6), 0, 6}, {log(5, 3, 3, 3, 4, 6, 6), -9, 6}, {log(5, 3, 3, 3, 4, 6, 6), math.MinInt, 6}, {log(5, 3, 3, 3, 4, 6, 6), 11, 11}, {log(5, 3, 3, 3, 4, 6, 6), math.MaxInt, 11},
		{api.Log{}, 0, 1}, {api.Log{}, -1, 1}, {api.Log{}, 1, 1}, {log(5, 3), 5, 6}, {log(5, 3), 4, 6}, {log(5, 3), 9, 6}, {log(most, 1), most, most + 1}, {log(most, 1), 0, most + 1}, {log(most-1, 1, 1), most + 5, most + 1}, {log(most-1, 1, 1), most, most}, {log(0, 0, 1, 1, 1), 3, 1},
	} {
		if got := Hint(c.l, c.index); got != c.want || modelHint(c.l, c.index) != c.want {
			t.Error(i, got)
		}
	}
}

// P18.3
func TestFresh(t *testing.T) {
	l := log(5, 3, 3, 6)
	for _, c := range []struct {
		index, term int
		want        bool
	}{
		{7, 6, true}, {8, 6, true}, {6, 6, false}, {0, 7, true}, {-1, 7, true}, {math.MinInt, math.MaxInt, true}, {math.MaxInt, 5, false}, {7, 5, false}, {math.MaxInt, 6, true}, {most, math.MinInt, false}, {math.MinInt, 6, false},
	} {
		if Fresh(l, c.index, c.term) != c.want {
			t.Error(c)
		}
	}
	if !Fresh(api.Log{}, 0, 0) || Fresh(api.Log{}, -1, 0) || !Fresh(log(5, 3), 5, 3) || Fresh(log(5, 3), 4, 3) || !Fresh(log(5, 3), 0, 4) {
		t.Error("logs without rows")
	}
}

// P18.3
func TestCut(t *testing.T) {
	l := log(5, 3, 3, 4, 6)
	for _, c := range []struct{ index, term, rows int }{
		{5, 3, 3}, {6, 3, 2}, {7, 4, 1}, {8, 6, 0}, {6, 4, 0}, {5, 0, 0}, {7, 3, 0}, {9, 6, 0}, {9, 0, 0}, {4, 3, 0}, {4, 0, 0}, {0, 0, 0}, {-5, -5, 0}, {math.MaxInt, math.MaxInt, 0}, {math.MinInt, math.MinInt, 0}, {math.MinInt, 0, 0}, {most + 1, 0, 0},
	} {
		want := api.Log{Index: c.index, Term: c.term, Rows: l.Rows[3-c.rows:]}
		if got := Cut(l, c.index, c.term); !alikeLogs(got, want) || !alikeLogs(modelCut(l, c.index, c.term), want) {
			t.Error(c, got)
		}
	}
	if got := Cut(log(0, 0, 1), 0, 0); !alikeLogs(got, log(0, 0, 1)) {
		t.Error(got)
	}
}

// P18.1 to P18.4: any log, and what is told of it.
func TestRowsAreTheModels(t *testing.T) {
	r := rand.New(rand.NewSource(1))
	told := map[string]int{}
	for range 100000 {
		l := anyLog(r)
		if r.Intn(30) == 0 && len(l.Rows) > 0 {
			spoil(r, l.Rows)
		}
		if may := modelMay(l); may != (Check(l) == api.OK) {
			t.Fatal(l)
		} else if !may {
			told["refused"]++
			continue
		}
		index, term, more := anyMore(r, l)
		want := modelJoin(l, index, term, more)
		is(t, l, index, term, more, want)
		switch {
		case !want.ok:
			told["not joined"]++
		case len(want.fresh) == 0:
			told["nothing"]++
		case want.cut > 0:
			told["cut"]++
		case want.ok:
			told["added"]++
		}
		at, size := l.Index+r.Intn(14)-3, r.Intn(9)-1
		of, ok := Term(l, at)
		wantOf, wantOK := modelTerm(l, at)
		last, lastTerm := Last(l)
		end := place{last, lastTerm}
		fresh := term > end.term || term == end.term && at >= end.index
		if of != wantOf || ok != wantOK || end != modelLast(l) || !alike(From(l, at, size), modelFrom(l, at, size)) || Hint(l, at) != modelHint(l, at) || Fresh(l, at, term) != fresh {
			t.Fatal(l, at, size, term)
		}
		if !ok || r.Intn(4) == 0 {
			of = term
		}
		if !alikeLogs(Cut(l, at, of), modelCut(l, at, of)) {
			t.Fatal(l, at, of)
		}
		if t.Failed() {
			return
		}
	}
	for _, s := range []string{"refused", "not joined", "nothing", "cut", "added"} {
		if told[s] < 1000 {
			t.Error(s, told[s])
		}
	}
}

// P18.4: and the same again brings nothing.
func TestJoinedLogs(t *testing.T) {
	r := rand.New(rand.NewSource(2))
	n := 0
	for range 50000 {
		l := anyLog(r)
		index, term, more := anyMore(r, l)
		out, cut, fresh, ok := Join(l, index, term, more...)
		if !ok {
			continue
		}
		n++
		if Check(out) != api.OK {
			t.Fatal(out)
		}
		for _, e := range more {
			if of, there := Term(out, e.Index); e.Index > l.Index && (!there || of != e.Term) {
				t.Fatal(l, more, out)
			}
		}
		for _, e := range l.Rows {
			if stays := cut == 0 || e.Index < cut; stays && !alike(From(out, e.Index, 1), []api.Entry{e}) {
				t.Fatal(l, more, out)
			}
		}
		if len(fresh) > 0 && !alike(From(out, fresh[0].Index, len(out.Rows)), fresh) {
			t.Fatal(l, more, out)
		}
		is(t, out, index, term, more, joined{out: out, ok: true})
	}
	if n < 10000 {
		t.Error(n)
	}
}

// P18.5 to P18.7
func TestSoundFreshAndCut(t *testing.T) {
	r := rand.New(rand.NewSource(3))
	for range 30000 {
		l, other := anyLog(r), anyLog(r)
		last, term := Last(l)
		otherLast, otherTerm := Last(other)
		if hint := Hint(l, l.Index+r.Intn(16)-5); hint <= l.Index || hint > last+1 {
			t.Fatal(l, hint)
		}
		if !Fresh(l, otherLast, otherTerm) && !Fresh(other, last, term) || !Fresh(l, last, term) {
			t.Fatal(l, other)
		}
		p := places(l)[r.Intn(len(l.Rows)+1)]
		cut := Cut(l, p.index, p.term)
		if at, of := Last(cut); Check(cut) != api.OK || at != last || of != term {
			t.Fatal(l, p, cut)
		}
		for i := p.index; i <= last+1; i++ {
			a, had := Term(l, i)
			b, has := Term(cut, i)
			if a != b || had != has {
				t.Fatal(l, p, cut)
			}
		}
	}
}

// scrawl writes over rows, their room and their data.
func scrawl(l []api.Entry) {
	for i := range l[:cap(l)] {
		e := &l[:cap(l)][i]
		for j := range e.Data[:cap(e.Data)] {
			e.Data[:cap(e.Data)][j] = 255
		}
		*e = api.Entry{Index: -9}
	}
}

// What is handed in is as it was, and no answer's memory is another list's.
func TestNewMemory(t *testing.T) {
	build := func() (api.Log, []api.Entry) {
		l, more := log(0, 0, 1, 1, 2, 9, 9), entries(3, 3, 4, 9, 9)
		l.Rows, more = l.Rows[:3], more[:2]
		return l, more
	}
	l, more := build()
	out, _, fresh, _ := Join(l, 2, 1, more...)
	refused, _, _, _ := Join(l, 9, 1, more...)
	nothing, _, _, _ := Join(l, 2, 1)
	from, cut, all := From(l, 2, 1), Cut(l, 1, 1), Cut(l, 0, 0)
	lists := [][]api.Entry{out.Rows, fresh, refused.Rows, nothing.Rows, from, cut.Rows, all.Rows}
	want := [][]api.Entry{append(entries(1, 1, 1), entries(3, 3, 4)...), entries(3, 3, 4), l.Rows, l.Rows, entries(2, 1), entries(2, 1, 2), l.Rows}
	for i, x := range lists {
		if !alike(x, want[i]) {
			t.Errorf("%d: %v", i, x)
		}
		scrawl(x)
	}
	again, other := build()
	if !reflect.DeepEqual(l.Rows[:5], again.Rows[:5]) || !reflect.DeepEqual(more[:4], other[:4]) {
		t.Error(l, more)
	}
}
