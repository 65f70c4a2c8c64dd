package views

import (
	"fmt"
	"maps"
	"math"
	"math/rand"
	"slices"
	"strings"
	"testing"

	"tidemark/api"
	"tidemark/wire"
)

const (
	top  = "9223372036854775807"
	low  = "-9223372036854775808"
	half = "4611686018427387904"
)

func put(key, value string) api.Op { return api.Op{Key: key, Has: true, Value: value} }

func sum(name, field, of string) api.View {
	return api.View{Name: name, Kind: api.VSum, Field: field, Of: of}
}
func index(name, field string) api.View {
	return api.View{Name: name, Kind: api.VIndex, Field: field}
}
func count(name, field string) api.View {
	return api.View{Name: name, Kind: api.VCount, Field: field}
}

// tells fails unless a view has just these rows.
func tells(t *testing.T, v *Views, name string, want ...api.Row) {
	t.Helper()
	if l, e := v.Rows(name); e != api.OK || !alike(l, want) {
		t.Errorf("%s: %v %d, not %v", name, l, e, want)
	}
}

// P11.1
func TestCheckOfAView(t *testing.T) {
	eight, nine := "abcdefgh", "abcdefghi"
	for i, c := range []struct {
		w    api.View
		want api.Errno
	}{
		{index("a", "b"), api.OK}, {count("a", "b"), api.OK}, {sum("a", "b", "c"), api.OK}, {sum("a", "a", "a"), api.OK}, {sum(eight, eight, eight), api.OK},
		{api.View{}, api.ErrField}, {index("", "b"), api.ErrField}, {index("a", ""), api.ErrField}, {index(nine, "b"), api.ErrField}, {index("a", nine), api.ErrField}, {count("A", "b"), api.ErrField}, {count("a", "b1"), api.ErrField}, {index("\xff", "b"), api.ErrField}, {index("a", "é"), api.ErrField},
		{sum("a", "b", ""), api.ErrField}, {sum("a", "b", nine), api.ErrField}, {sum("a", "b", "C"), api.ErrField}, {api.View{Name: "a", Kind: api.VIndex, Field: "b", Of: "c"}, api.ErrField}, {api.View{Name: "a", Kind: api.VCount, Field: "b", Of: "c"}, api.ErrField}, {api.View{Name: "a", Kind: api.VCount, Field: "b", Of: "?"}, api.ErrField},
		{api.View{Name: "a", Kind: 0, Field: "b"}, api.ErrArg}, {api.View{Name: "a", Kind: 4, Field: "b"}, api.ErrArg}, {api.View{Name: "a", Kind: -1, Field: "b"}, api.ErrArg}, {api.View{Name: "a", Kind: math.MaxInt, Field: "b"}, api.ErrArg}, {api.View{Name: "a", Kind: math.MinInt, Field: "b"}, api.ErrArg},
		{api.View{Name: "a", Kind: 4, Field: "b", Of: "c"}, api.ErrField}, {api.View{Name: "", Kind: 9, Field: "b"}, api.ErrField}, {api.View{Name: "a", Kind: 9, Field: "B"}, api.ErrField},
	} {
		if got := Check(c.w); got != c.want || modelCheck(c.w) != c.want {
			t.Errorf("%d: %v: %d", i, c.w, got)
		}
		l, e := Of(c.w, []api.Op{put("k", "b:1")})
		v := New()
		if e != c.want || e != api.OK && len(l) != 0 || v.Add(c.w, nil) != c.want || v.Set([]api.View{c.w}, nil) != c.want {
			t.Errorf("%d: Of: %v %d", i, l, e)
		}
	}
}

// P11.1: the document's example, and what else a value may be.
func TestOfTellsRows(t *testing.T) {
	all := []api.Op{put("k2", "a:x n:-2"), put("k1", "a:x n:5"), put("k3", "n:9"), put("k4", "a: n:7"), put("k5", "a:x a:y n:x n:8"), put("k6", "a:é n:07"), put("K", "n:1 a:X b:c"), put("k7", "aa:x a:X")}
	for i, c := range []struct {
		w    api.View
		want []api.Row
	}{
		{sum("s", "a", "n"), []api.Row{{Text: "", N: 7}, {Text: "X", N: 1}, {Text: "x", N: 3}, {Text: "é", N: 0}}},
		{count("s", "a"), []api.Row{{Text: "", N: 1}, {Text: "X", N: 2}, {Text: "x", N: 3}, {Text: "é", N: 1}}},
		{index("s", "a"), []api.Row{{Text: "", Keys: []string{"k4"}, N: 1}, {Text: "X", Keys: []string{"K", "k7"}, N: 2}, {Text: "x", Keys: []string{"k1", "k2", "k5"}, N: 3}, {Text: "é", Keys: []string{"k6"}, N: 1}}},
		{index("s", "b"), []api.Row{{Text: "c", Keys: []string{"K"}, N: 1}}}, {index("s", "q"), nil}, {sum("s", "q", "n"), nil}, {sum("s", "b", "q"), []api.Row{{Text: "c"}}},
	} {
		if l, e := Of(c.w, all); e != api.OK || !alike(l, c.want) {
			t.Errorf("%d: %v %d", i, l, e)
		}
		v := New()
		if e := v.Add(c.w, all); e != api.OK {
			t.Error(e)
		}
		tells(t, v, "s", c.want...)
	}
	if l, e := Of(sum("s", "a", "n"), nil); len(l) != 0 || e != api.OK {
		t.Error(l, e)
	}
}

// P11.1
func TestSumsOfSixtyFourBits(t *testing.T) {
	for i, c := range []struct {
		numbers []string
		want    int64
		e       api.Errno
	}{
		{[]string{top}, math.MaxInt64, api.OK}, {[]string{low}, math.MinInt64, api.OK}, {[]string{top, "0"}, math.MaxInt64, api.OK}, {[]string{top, "1"}, 0, api.ErrOver}, {[]string{low, "-1"}, 0, api.ErrOver}, {[]string{top, low}, -1, api.OK}, {[]string{top, "1", "-1"}, math.MaxInt64, api.OK}, {[]string{low, "-1", "1"}, math.MinInt64, api.OK},
		{[]string{half, half}, 0, api.ErrOver}, {[]string{"-" + half, "-" + half}, math.MinInt64, api.OK}, {[]string{top, top, low, low}, -2, api.OK}, {[]string{top, top, top, top, top}, 0, api.ErrOver}, {[]string{low, low}, 0, api.ErrOver}, {[]string{low, low, low, low}, 0, api.ErrOver}, {[]string{top, top, top, low, low, low}, -3, api.OK},
		{[]string{top, "9223372036854775808"}, math.MaxInt64, api.OK}, {[]string{"-9223372036854775809", "5"}, 5, api.OK}, {[]string{top, "01", "x", "", "+1", "-0"}, math.MaxInt64, api.OK},
	} {
		var all []api.Op
		for j, n := range c.numbers {
			all = append(all, put(fmt.Sprint("k", j), "a:x n:"+n))
		}
		for range 2 {
			l, e := Of(sum("s", "a", "n"), all)
			if e != c.e || e == api.OK && !alike(l, []api.Row{{Text: "x", N: c.want}}) || e != api.OK && len(l) != 0 {
				t.Errorf("%d: %v %d", i, l, e)
			}
			if e := New().Add(sum("s", "a", "n"), all); e != c.e {
				t.Errorf("%d: Add: %d", i, e)
			}
			slices.Reverse(all)
		}
		if _, e := Of(count("s", "a"), all); e != api.OK {
			t.Errorf("%d: a count: %d", i, e)
		}
	}
}

// P11.2
func TestAddDropAndList(t *testing.T) {
	v := New()
	all := []api.Op{put("k", "a:x n:"+top), put("l", "a:x n:1 m:5")}
	if v == nil || len(v.List()) != 0 {
		t.Fatal("a new one")
	}
	for i, c := range []struct {
		w    api.View
		want api.Errno
	}{
		{index("i", "a"), api.OK}, {count("i", "b"), api.ErrThere}, {sum("i", "a", "n"), api.ErrThere}, {sum("s", "a", "n"), api.ErrOver}, {index("", "a"), api.ErrField}, {api.View{Name: "i", Kind: 7, Field: "a"}, api.ErrArg}, {sum("s", "a", "m"), api.OK}, {count("c", "a"), api.OK}, {index("j", "n"), api.OK},
		{count("d", "a"), api.ErrFull}, {count("c", "a"), api.ErrThere}, {sum("z", "a", "n"), api.ErrFull}, {count("A", "a"), api.ErrField}, {api.View{Name: "z", Field: "a"}, api.ErrArg},
	} {
		before := v.List()
		if e := v.Add(c.w, all); e != c.want {
			t.Errorf("%d: %d", i, e)
		} else if want := append(before, c.w); e == api.OK && !slices.Equal(v.List(), want) || e != api.OK && !slices.Equal(v.List(), before) {
			t.Errorf("%d: %v", i, v.List())
		}
	}
	if v.Drop("") != api.ErrNone || v.Drop("z") != api.ErrNone || v.Drop("s") != api.OK || v.Drop("s") != api.ErrNone {
		t.Error("Drop")
	}
	if l, e := v.Rows("s"); len(l) != 0 || e != api.ErrNone {
		t.Error(l, e)
	}
	if e := v.Add(sum("s", "a", "m"), all); e != api.OK || !slices.Equal(v.List(), []api.View{index("i", "a"), count("c", "a"), index("j", "n"), sum("s", "a", "m")}) {
		t.Error(v.List())
	}
	tells(t, v, "i", api.Row{Text: "x", Keys: []string{"k", "l"}, N: 2})
	tells(t, v, "c", api.Row{Text: "x", N: 2})
	tells(t, v, "j", api.Row{Text: "1", Keys: []string{"l"}, N: 1}, api.Row{Text: top, Keys: []string{"k"}, N: 1})
	tells(t, v, "s", api.Row{Text: "x", N: 5})
}

// P11.2
func TestSetMakesJustThese(t *testing.T) {
	all := []api.Op{put("k", "a:x n:"+top), put("l", "a:x n:1")}
	four := []api.View{index("a", "a"), index("b", "a"), count("c", "a"), sum("d", "a", "m")}
	v := New()
	for i, c := range []struct {
		l    []api.View
		want api.Errno
	}{
		{four, api.OK}, {nil, api.OK}, {four[2:], api.OK}, {[]api.View{four[3], four[0]}, api.OK}, {append(slices.Clone(four), index("e", "a")), api.ErrFull}, {append(slices.Clone(four), index("", "a")), api.ErrField}, {append(slices.Clone(four), four[0]), api.ErrThere}, {[]api.View{four[0], four[0], {}}, api.ErrThere}, {[]api.View{four[0], {}, four[0]}, api.ErrField},
		{[]api.View{sum("d", "a", "n")}, api.ErrOver}, {[]api.View{four[0], sum("d", "a", "n"), four[0]}, api.ErrOver}, {[]api.View{four[0], {Name: "x", Field: "y"}, sum("d", "a", "n")}, api.ErrArg}, {slices.Repeat(four, 10000), api.ErrThere}, {[]api.View{}, api.OK}, {four[:1], api.OK},
	} {
		before := v.List()
		if e := v.Set(c.l, all); e != c.want {
			t.Errorf("%d: %d", i, e)
		} else if e == api.OK && !slices.Equal(v.List(), c.l) || e != api.OK && !slices.Equal(v.List(), before) {
			t.Errorf("%d: %v", i, v.List())
		}
	}
	tells(t, v, "a", api.Row{Text: "x", Keys: []string{"k", "l"}, N: 2})
	if e := v.Set(v.List(), nil); e != api.OK {
		t.Error(e)
	}
	tells(t, v, "a")
}

// P11.3: the document's example.
func TestTakeOfAKeyThatGoes(t *testing.T) {
	v := New()
	all := []api.Op{put("k1", "a:x n:5"), put("k2", "a:x n:-2"), put("k3", "n:9")}
	if e := v.Set([]api.View{sum("s", "a", "n"), index("i", "a")}, all); e != api.OK {
		t.Fatal(e)
	}
	tells(t, v, "s", api.Row{Text: "x", N: 3})
	tells(t, v, "i", api.Row{Text: "x", Keys: []string{"k1", "k2"}, N: 2})
	if e := v.Take(api.Event{Pos: 1, Key: "k1", Had: true, Old: "a:x n:5"}); e != api.OK {
		t.Fatal(e)
	}
	tells(t, v, "s", api.Row{Text: "x", N: -2})
	tells(t, v, "i", api.Row{Text: "x", Keys: []string{"k2"}, N: 1})
	if e := v.Take(api.Event{Key: "k2", Had: true, Old: "a:x n:-2", Has: true, Now: "a:y n:2"}, api.Event{Key: "k3", Had: true, Old: "n:9", Now: "a:z"}, api.Event{Key: "k4", Old: "a:y n:7"}); e != api.OK {
		t.Fatal(e)
	}
	tells(t, v, "s", api.Row{Text: "y", N: 2})
	tells(t, v, "i", api.Row{Text: "y", Keys: []string{"k2"}, N: 1})
	if v.Take() != api.OK || v.Take(api.Event{Key: "k2", Had: true, Old: "a:y n:2"}) != api.OK {
		t.Error("to nothing")
	}
	tells(t, v, "s")
	tells(t, v, "i")
}

// P11.1, P11.3: a sum that is 0 has its row as long as a key counts.
func TestSumThatIsZero(t *testing.T) {
	v := New()
	if e := v.Add(sum("s", "a", "n"), []api.Op{put("k", "a:x n:1")}); e != api.OK {
		t.Fatal(e)
	}
	v.Take(api.Event{Key: "l", Has: true, Now: "a:x n:-1"})
	tells(t, v, "s", api.Row{Text: "x"})
	v.Take(api.Event{Key: "l", Had: true, Old: "a:x n:-1", Has: true, Now: "a:x"}, api.Event{Key: "k", Had: true, Old: "a:x n:1"})
	tells(t, v, "s", api.Row{Text: "x"})
	v.Take(api.Event{Key: "l", Had: true, Old: "a:x"})
	tells(t, v, "s")
}

// P11.3, P11.6
func TestTakeOfASumTooGreat(t *testing.T) {
	v := New()
	all := []api.Op{put("k", "a:x n:"+top), put("l", "a:y n:"+low)}
	if e := v.Set([]api.View{index("i", "a"), sum("s", "a", "n"), count("c", "a"), sum("m", "a", "m")}, all); e != api.OK {
		t.Fatal(e)
	}
	same := func() {
		t.Helper()
		tells(t, v, "i", api.Row{Text: "x", Keys: []string{"k"}, N: 1}, api.Row{Text: "y", Keys: []string{"l"}, N: 1})
		tells(t, v, "s", api.Row{Text: "x", N: math.MaxInt64}, api.Row{Text: "y", N: math.MinInt64})
		tells(t, v, "c", api.Row{Text: "x", N: 1}, api.Row{Text: "y", N: 1})
		tells(t, v, "m", api.Row{Text: "x"}, api.Row{Text: "y"})
	}
	one := api.Event{Key: "o", Has: true, Now: "a:x n:1"}
	for i, c := range []struct {
		l    []api.Event
		want api.Errno
	}{
		{[]api.Event{one}, api.ErrOver},
		{[]api.Event{{Key: "o", Has: true, Now: "a:y n:-1"}}, api.ErrOver},
		{[]api.Event{{Key: "p", Has: true, Now: "a:z n:3"}, {Key: "l", Had: true, Old: "a:y n:" + low}, one}, api.ErrOver},
		{[]api.Event{{Key: "k", Had: true, Old: "a:x n:" + top, Has: true, Now: "a:x n:" + half}, {Key: "p", Has: true, Now: "a:x n:" + half}}, api.ErrOver},
		{[]api.Event{{Key: "k", Had: true, Old: "a:x n:" + top, Has: true, Now: "a:y n:" + low}}, api.ErrOver},
		{[]api.Event{{Key: "o", Has: true, Now: "a:x m:" + top}, {Key: "p", Has: true, Now: "a:x m:1"}}, api.ErrOver},
		{[]api.Event{one, {Key: "o", Had: true, Old: one.Now}}, api.OK},
		{[]api.Event{one, {Key: "p", Has: true, Now: "a:x n:-1"}, {Key: "p", Had: true, Old: "a:x n:-1"}, {Key: "o", Had: true, Old: one.Now}}, api.OK},
		{[]api.Event{{Key: "k", Had: true, Old: "a:x n:" + top}, {Key: "k", Has: true, Now: "a:x n:" + top}}, api.OK},
	} {
		if e := v.Take(c.l...); e != c.want {
			t.Errorf("%d: %d", i, e)
		}
		same()
	}
	if e := v.Take(one, api.Event{Key: "p", Has: true, Now: "a:x n:-1"}); e != api.OK {
		t.Error("behind all it is a number of 64 bits:", e)
	}
	tells(t, v, "s", api.Row{Text: "x", N: math.MaxInt64}, api.Row{Text: "y", N: math.MinInt64})
	if v.Drop("s") != api.OK || v.Take(api.Event{Key: "q", Has: true, Now: "a:x n:7"}) != api.OK {
		t.Error("without the sum")
	}
}

// P11.2 to P11.7
func TestLivesAreTheModels(t *testing.T) {
	r := rand.New(rand.NewSource(1))
	counts := map[api.Errno]int{}
	for range 400 {
		v, m := New(), map[string]string{}
		var l []api.View
		for range 60 {
			var e, want api.Errno
			switch w := anyView(r); r.Intn(8) {
			case 0, 1:
				e, want = v.Add(w, ops(m)), modelAdd(l, w, m)
				if want == api.OK {
					l = append(l, w)
				}
			case 2:
				i := slices.IndexFunc(l, func(x api.View) bool { return x.Name == w.Name })
				e, want = v.Drop(w.Name), api.ErrNone
				if i >= 0 {
					l, want = slices.Delete(l, i, i+1), api.OK
				}
			case 3:
				var next []api.View
				for range r.Intn(4) {
					next = append(next, anyView(r))
				}
				e = v.Set(next, ops(m))
				for i, x := range next {
					if want == api.OK {
						want = modelAdd(next[:i], x, m)
					}
				}
				if want == api.OK {
					l = next
				}
			default:
				events, next := anyEvents(r, m, 5)
				e = v.Take(events...)
				for _, w := range l {
					if _, we := modelOf(w, next); we != api.OK {
						want = we
					}
				}
				if want == api.OK {
					m = next
				}
			}
			counts[e]++
			if e != want || !slices.Equal(v.List(), l) {
				t.Fatalf("%d, not %d: %v, not %v", e, want, v.List(), l)
			}
			sameRows(t, v, l, m)
		}
	}
	for _, e := range []api.Errno{api.OK, api.ErrField, api.ErrArg, api.ErrThere, api.ErrFull, api.ErrNone, api.ErrOver} {
		if counts[e] < 20 {
			t.Error(counts)
		}
	}
}

// modelAdd is the error of one more view.
func modelAdd(l []api.View, w api.View, m map[string]string) api.Errno {
	_, over := modelOf(w, m)
	switch {
	case modelCheck(w) != api.OK:
		return modelCheck(w)
	case slices.ContainsFunc(l, func(x api.View) bool { return x.Name == w.Name }):
		return api.ErrThere
	case len(l) == 4:
		return api.ErrFull
	}
	return over
}

// sameRows fails unless each view tells what the model tells of the map as it is.
func sameRows(t *testing.T, v *Views, l []api.View, m map[string]string) {
	t.Helper()
	for _, w := range l {
		want, _ := modelOf(w, m)
		got, e := v.Rows(w.Name)
		of, e2 := Of(w, ops(m))
		if e != api.OK || e2 != api.OK || !alike(got, want) || !alike(of, want) {
			t.Fatalf("%v of %v: %v %d, %v %d, not %v", w, m, got, e, of, e2, want)
		}
		if w.Kind != api.VIndex {
			continue
		}
		counts, _ := Of(count("c", w.Field), ops(m))
		for i, row := range got {
			if counts[i].Text != row.Text || counts[i].N != int64(len(row.Keys)) {
				t.Fatalf("%v: %v", got, counts)
			}
		}
	}
}

// P11.3: of events that follow from nothing just that the call ends.
func TestTakeOfAnything(t *testing.T) {
	r := rand.New(rand.NewSource(2))
	for range 300 {
		v := New()
		v.Set([]api.View{index("i", "a"), sum("s", "a", "n"), count("c", "a"), sum("m", "b", "m")}, nil)
		for range 10 {
			var l []api.Event
			for range r.Intn(6) {
				l = append(l, api.Event{Pos: r.Intn(3) - 1, Key: one(r, "", "k", "\xff"), Had: r.Intn(2) == 0, Old: anyValue(r), Has: r.Intn(2) == 0, Now: anyValue(r)})
			}
			before := slices.Clone(v.List())
			if e := v.Take(l...); e != api.OK && e != api.ErrOver || !slices.Equal(v.List(), before) {
				t.Fatal(e)
			}
			for _, name := range []string{"i", "s", "c", "m"} {
				if _, e := v.Rows(name); e != api.OK {
					t.Fatal(e)
				}
			}
		}
	}
}

// P11.2
func TestViewsOfNobody(t *testing.T) {
	w := index("i", "a")
	for _, v := range []*Views{nil, {}} {
		l, e := v.Rows("i")
		if v.Add(w, nil) != api.ErrNil || v.Add(api.View{}, nil) != api.ErrNil || v.Drop("i") != api.ErrNil || v.Take() != api.ErrNil || v.Take(api.Event{Has: true}) != api.ErrNil || v.Set(nil, nil) != api.ErrNil || v.Set([]api.View{{}}, nil) != api.ErrNil || len(v.List()) != 0 || len(l) != 0 || e != api.ErrNil {
			t.Error(v == nil)
		}
	}
}

// P11.4
func TestPutAndGet(t *testing.T) {
	n32 := strings.Repeat("n", 32)
	for i, c := range []struct {
		w    api.View
		want string
	}{
		{api.View{}, "\x00\x00\x00\x00"}, {sum("ab", "c", "def"), "\x01\x03\x01\x02ab\x01\x01c\x01\x03def"}, {index("i", "a"), "\x01\x01\x01\x01i\x01\x01a\x00"}, {api.View{Kind: 300, Name: n32, Field: "\xff", Of: "é"}, "\x02\x01\x2c\x01\x20" + n32 + "\x01\x01\xff\x01\x02é"},
	} {
		room := []byte("abcdefghijklmnopqrstuvwxyz")
		got := Put(room[:2], c.w)
		if string(got) != "ab"+c.want || string(room) != "abcdefghijklmnopqrstuvwxyz" || string(Put(nil, c.w)) != c.want {
			t.Errorf("%d: %q", i, got)
		}
		r := wire.Read(append(got[2:], 9))
		if w := Get(r); w != c.w || r.Err() != api.OK || r.Left() != 1 {
			t.Errorf("%d: %v %d", i, w, r.Err())
		}
		for j := range got[:cap(got)] {
			got[:cap(got)][j] = 0
		}
		if string(room) != "abcdefghijklmnopqrstuvwxyz" {
			t.Errorf("%d: Put hands out what came in", i)
		}
	}
	if string(Put(nil, api.View{Kind: -5})) != "\x00\x00\x00\x00" {
		t.Error("a kind below 0")
	}
}

// P11.4
func TestGetOfOtherBytes(t *testing.T) {
	n33 := strings.Repeat("n", 33)
	whole := Put(nil, sum("ab", "c", "def"))
	for i, c := range []struct {
		b    []byte
		want api.Errno
	}{
		{whole, api.OK}, {nil, api.ErrShort}, {[]byte{9}, api.ErrForm}, {Put(nil, index(n33, "a")), api.ErrLong}, {Put(nil, index("a", n33)), api.ErrLong}, {Put(nil, sum("a", "b", n33)), api.ErrLong}, {whole[:len(whole)-1], api.ErrShort}, {whole[:2], api.ErrShort}, {[]byte("\x01\x00\x00\x00\x00"), api.ErrForm},
	} {
		r := wire.Read(c.b)
		Get(r)
		if r.Err() != c.want {
			t.Errorf("%d: %d", i, r.Err())
		}
	}
	if Get(nil) != (api.View{}) || Get(&wire.Reader{}) != (api.View{}) {
		t.Error("of nobody")
	}
}

// What is handed in is not changed and not kept; what comes out is new.
func TestMemory(t *testing.T) {
	v := New()
	all := []api.Op{put("l", "a:x"), put("k", "a:x"), put("m", "a:x")}
	room := []api.View{index("i", "a"), count("c", "a"), index("j", "a")}
	wasAll, wasRoom := slices.Clone(all), slices.Clone(room)
	events := []api.Event{{Key: "o", Has: true, Now: "a:x"}, {Key: "p", Has: true, Now: "a:x"}}
	wasEvents := slices.Clone(events)
	if v.Set(room[:2], all[:2]) != api.OK || v.Take(events[:1]...) != api.OK {
		t.Fatal("it may be")
	}
	rows, _ := Of(room[0], all[:2])
	if !slices.Equal(all, wasAll) || !slices.Equal(room, wasRoom) || !slices.Equal(events, wasEvents) || len(rows) != 1 {
		t.Error("what was handed in")
	}
	clear(all)
	clear(room)
	clear(events)
	for range 2 {
		l, _ := v.Rows("i")
		if !alike(l, []api.Row{{Text: "x", Keys: []string{"k", "l", "o"}, N: 3}}) || !slices.Equal(v.List(), wasRoom[:2]) {
			t.Fatal(l, v.List())
		}
		for i := range l[0].Keys[:cap(l[0].Keys)] {
			l[0].Keys[:cap(l[0].Keys)][i] = "z"
		}
		clear(l[:cap(l)])
		list := v.List()
		clear(list[:cap(list)])
	}
}

// Two objects know nothing of one another.
func TestViewsGoTheirOwnWay(t *testing.T) {
	a, b := New(), New()
	m := map[string]string{"k": "a:x"}
	a.Add(index("i", "a"), ops(m))
	b.Add(index("i", "a"), ops(maps.Clone(m)))
	a.Take(api.Event{Key: "k", Had: true, Old: "a:x"})
	tells(t, a, "i")
	tells(t, b, "i", api.Row{Text: "x", Keys: []string{"k"}, N: 1})
}
