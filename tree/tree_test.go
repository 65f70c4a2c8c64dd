package tree

import (
	"fmt"
	"math"
	"math/rand"
	"slices"
	"strconv"
	"testing"

	"tidemark/api"
)

// P3.1
func TestNewHasNoPairs(t *testing.T) {
	same(t, "New", New(), nil)
	if New().Depth() != 0 {
		t.Error("depth")
	}
}

// P3.1
func TestOfTakesTheLastOfEachKey(t *testing.T) {
	same(t, "none", Of(), nil)
	same(t, "the example", Of(pair("b", "1"), pair("a", "2"), pair("b", "3")), model{pair("a", "2"), pair("b", "3")})
	same(t, "one key", Of(pair("a", "1"), pair("a", "2"), pair("a", "3")), model{pair("a", "3")})
	same(t, "the empty key", Of(pair("", "1"), pair("a", ""), pair("", "")), model{pair("", ""), pair("a", "")})
	r := rand.New(rand.NewSource(1))
	for range 300 {
		var l []api.Pair
		var want model
		for i := range r.Intn(100) {
			l = append(l, pair(someKey(r), strconv.Itoa(i)))
			want = want.put(l[i].Key, l[i].Value)
		}
		was := slices.Clone(l)
		tree := Of(l...)
		if !slices.Equal(l, was) {
			t.Fatal("Of changed what it was handed")
		}
		clear(l)
		same(t, "random", tree, want)
	}
}

// P3.1
func TestPutAndDropAreAsOfAMap(t *testing.T) {
	r := rand.New(rand.NewSource(2))
	for range 20 {
		tree, want := New(), model{}
		for i := range 400 {
			key := someKey(r)
			if i%400 < 200 && r.Intn(3) > 0 || r.Intn(3) == 0 {
				v := strconv.Itoa(r.Intn(4))
				tree, want = tree.Put(key, v), want.put(key, v)
			} else {
				tree, want = tree.Drop(key), want.drop(key)
			}
			same(t, "random", tree, want)
			for _, k := range world {
				got, ok := tree.Get(k)
				if v, there := want.get(k); got != v || ok != there {
					t.Fatalf("Get %q: %q %t", k, got, ok)
				}
			}
		}
	}
}

// P3.1: a value that is empty is there all the same.
func TestEmptyKeyAndEmptyValue(t *testing.T) {
	tree := New().Put("", "")
	if v, ok := tree.Get(""); v != "" || !ok || tree.Len() != 1 {
		t.Error("the empty key", v, ok)
	}
	if _, ok := New().Get(""); ok {
		t.Error("the empty key of no pairs")
	}
	same(t, "dropped", tree.Drop(""), nil)
	same(t, "dropped once more", tree.Drop("").Drop(""), nil)
}

// P3.2
func TestPlacesAndNeighbours(t *testing.T) {
	r := rand.New(rand.NewSource(3))
	for range 200 {
		tree, want := some(r)
		for _, k := range append(slices.Clone(world), "a\x00\x01", "\xfe", "44444", "~") {
			n := want.rank(k)
			if got := tree.Rank(k); got != n {
				t.Fatalf("Rank %q: %d, not %d", k, got, n)
			}
			p, ok := want.at(n)
			if got, there := tree.Ceil(k); got != p || there != ok {
				t.Fatalf("Ceil %q: %q %t", k, got, there)
			}
			if !ok || p.Key != k {
				p, ok = want.at(n - 1)
			}
			if got, there := tree.Floor(k); got != p || there != ok {
				t.Fatalf("Floor %q: %q %t", k, got, there)
			}
		}
		for _, i := range []int{math.MinInt, -2, -1, 0, 1, len(want) / 2, len(want) - 1, len(want), len(want) + 1, math.MaxInt} {
			p, ok := want.at(i)
			if got, there := tree.At(i); got != p || there != ok {
				t.Fatalf("At %d of %d: %q %t", i, len(want), got, there)
			}
		}
	}
}

// P3.2
func TestScanIsFromOneKeyToAnother(t *testing.T) {
	r := rand.New(rand.NewSource(4))
	mosts := []int{math.MinInt, -1, 0, 1, 2, 3, 7, 59, 60, 1000, math.MaxInt}
	for range 200 {
		tree, want := some(r)
		for range 60 {
			from, to, most := someKey(r), someKey(r), mosts[r.Intn(len(mosts))]
			if r.Intn(4) == 0 {
				to = ""
			}
			got := tree.Scan(from, to, most)
			if !slices.Equal(got, want.scan(from, to, most)) {
				t.Fatalf("from %q to %q, %d: %q of %q", from, to, most, got, want)
			}
			all := got[:cap(got)]
			for i := range all {
				all[i] = pair("spoilt", "")
			}
		}
		same(t, "behind all scans", tree, want)
	}
}

// P3.3
func TestSplitIsWhatIsLessAndWhatIsMore(t *testing.T) {
	r := rand.New(rand.NewSource(5))
	for range 300 {
		tree, want := some(r)
		key := someKey(r)
		less, more, value, there := tree.Split(key)
		n := want.rank(key)
		v, ok := want.get(key)
		if value != v || there != ok {
			t.Fatalf("%q: %q %t", key, value, there)
		}
		same(t, "less", less, want[:n])
		if ok {
			n++
		}
		same(t, "more", more, want[n:])
		same(t, "the tree", tree, want)
	}
}

// P3.3
func TestJoinIsOfRisingTrees(t *testing.T) {
	r := rand.New(rand.NewSource(6))
	refused := 0
	for range 500 {
		a, l := some(r)
		b, m := some(r)
		if r.Intn(3) > 0 {
			key := someKey(r)
			a, _, _, _ = a.Split(key)
			_, b, _, _ = b.Split(key)
			l, m = l.scan("", key, len(l)), m.scan(key+"\x00", "", len(m))
			if key == "" {
				l = nil
			}
		}
		got, ok := Join(a, b)
		rising := len(l) == 0 || len(m) == 0 || l[len(l)-1].Key < m[0].Key
		if ok != rising || !ok && got != nil {
			t.Fatalf("%q and %q: %t", l, m, ok)
		}
		if !ok {
			refused++
			continue
		}
		same(t, "joined", got, append(slices.Clone(l), m...))
	}
	if refused < 20 {
		t.Error("only", refused, "were refused")
	}
	one := Of(pair("a", "1"))
	if got, ok := Join(one, one); ok || got != nil {
		t.Error("a tree and itself")
	}
	if got, ok := Join(one, Of(pair("a\x00", ""))); !ok || got.Len() != 2 {
		t.Error("keys next to one another")
	}
	if got, ok := Join(Of(pair("b", "")), one); ok || got != nil {
		t.Error("falling")
	}
}

// P3.3: trees of very unlike depths.
func TestJoinOfUnlikeDepths(t *testing.T) {
	for _, sizes := range [][2]int{{1, 5000}, {5000, 1}, {3, 777}, {2000, 30}, {0, 9}, {9, 0}, {0, 0}} {
		var l, m model
		for i := range sizes[0] {
			l = append(l, pair(fmt.Sprintf("a%05d", i), "x"))
		}
		for i := range sizes[1] {
			m = append(m, pair(fmt.Sprintf("b%05d", i), "y"))
		}
		got, ok := Join(Of(l...), Of(m...))
		if !ok {
			t.Fatal(sizes)
		}
		same(t, "joined", got, append(slices.Clone(l), m...))
	}
}

// P3.3, P3.7
func TestSetsOfTwoTrees(t *testing.T) {
	r := rand.New(rand.NewSource(7))
	for i := range 600 {
		a, l := some(r)
		b, m := some(r)
		if i%3 == 0 { // they share parts
			b, m = a, l
			for range r.Intn(8) {
				k := someKey(r)
				b, m = b.Put(k, "new"), m.put(k, "new")
				k = someKey(r)
				b, m = b.Drop(k), m.drop(k)
			}
		}
		same(t, "Union", Union(a, b), l.union(m))
		same(t, "Minus", Minus(a, b), l.only(m, false))
		same(t, "Both", Both(a, b), l.only(m, true))
		same(t, "the first", a, l)
		same(t, "the second", b, m)
	}
}

// P3.7
func TestSetsKeepTheirLaws(t *testing.T) {
	r := rand.New(rand.NewSource(8))
	for range 200 {
		a, _ := some(r)
		b, _ := some(r)
		c, _ := some(r)
		same(t, "a tree and itself", Union(a, a), a.All())
		same(t, "both of itself", Both(a, a), a.All())
		same(t, "less itself", Minus(a, a), nil)
		same(t, "with none", Union(a, New()), a.All())
		same(t, "none with it", Union(New(), a), a.All())
		same(t, "less none", Minus(a, New()), a.All())
		same(t, "none less it", Minus(New(), a), nil)
		same(t, "both of none", Both(a, New()), nil)
		same(t, "none's both", Both(New(), a), nil)
		same(t, "in another order", Union(Union(a, b), c), Union(a, Union(b, c)).All())
		same(t, "parts", Union(Minus(a, b), Both(a, b)), a.All())
		same(t, "less two", Minus(Minus(a, b), c), Minus(a, Union(b, c)).All())
	}
}

// P3.4, P3.8
func TestDiffIsWhatIsNotTheSame(t *testing.T) {
	a := Of(pair("a", "2"), pair("b", "3"))
	want := []api.Event{{Key: "a", Had: true, Old: "2"}, {Key: "b", Had: true, Old: "3", Has: true, Now: "4"}}
	if got := Diff(a, Of(pair("b", "4"))); !slices.Equal(got, want) {
		t.Errorf("the example: %+v", got)
	}
	want = []api.Event{{Key: "", Had: true}, {Key: "x", Has: true}}
	if got := Diff(Of(pair("", "")), Of(pair("x", ""))); !slices.Equal(got, want) {
		t.Errorf("empty ones: %+v", got)
	}
	r := rand.New(rand.NewSource(9))
	for i := range 600 {
		a, l := some(r)
		b, m := some(r)
		if i%3 == 0 {
			b, m = a.Put(someKey(r), "1").Drop(someKey(r)), nil
			m = b.All()
		}
		got := Diff(a, b)
		if !slices.Equal(got, l.diff(m)) {
			t.Fatalf("%q to %q: %+v", l, m, got)
		}
		c := a
		for _, e := range got {
			if e.Has {
				c = c.Put(e.Key, e.Now)
			} else {
				c = c.Drop(e.Key)
			}
		}
		same(t, "the second", c, m)
		if len(Diff(a, a)) != 0 || len(Diff(a, Of(l...))) != 0 || len(Diff(b, c)) != 0 {
			t.Fatal("of alike trees")
		}
	}
}

// P3.5: the orders in which trees lean over, if they are not levelled.
func TestDepthIsBounded(t *testing.T) {
	orders := map[string]func(i, n int) int{
		"rising":  func(i, n int) int { return i },
		"falling": func(i, n int) int { return n - i },
		"outward": func(i, n int) int { return n + i*(1-2*(i%2)) },
		"inward":  func(i, n int) int { return n + (n-i)*(1-2*(i%2)) },
		"strides": func(i, n int) int { return i * 97 % n },
	}
	for name, order := range orders {
		const n = 700
		tree, want := New(), map[string]string{}
		for i := range n {
			k := fmt.Sprintf("%05d", order(i, n))
			tree, want[k] = tree.Put(k, "x"), "x"
			same(t, name, tree, tree.All())
		}
		same(t, name, tree, modelOf(want))
		for i := range n {
			k := fmt.Sprintf("%05d", order(i, n))
			tree = tree.Drop(k)
			delete(want, k)
			if i%50 == 0 {
				same(t, name+", dropped", tree, modelOf(want))
			}
		}
		same(t, name+", all dropped", tree, nil)
	}
}

// P3.5
func TestDepthOfSmallTrees(t *testing.T) {
	for n, want := range []int{0, 1, 2, 2, 3} {
		tree := New()
		for i := range n {
			tree = tree.Put(strconv.Itoa(i), "")
		}
		if got := tree.Depth(); got != want {
			t.Errorf("of %d pairs: %d", n, got)
		}
	}
}

// P3.6
func TestTreesStay(t *testing.T) {
	r := rand.New(rand.NewSource(10))
	trees, models := []*Tree{New(), nil, {}}, []model{nil, nil, nil}
	depths := []int{0, 0, 0}
	for len(trees) < 600 {
		a, b := r.Intn(len(trees)), r.Intn(len(trees))
		x, y, key := trees[a], trees[b], someKey(r)
		less, more, _, _ := x.Split(key)
		made := []*Tree{x.Put(key, "1"), x.Put(key, "2"), x.Drop(key), Union(x, y), Both(x, y), Minus(x, y), less, more}
		if j, ok := Join(less, more); ok {
			made = append(made, j)
		}
		Diff(x, y)
		one := made[r.Intn(len(made))]
		if one.Len() < r.Intn(30) {
			one = Union(x.Put(key, "3"), y)
		}
		trees, models, depths = append(trees, one), append(models, one.All()), append(depths, one.Depth())
	}
	for i, tree := range trees {
		if !slices.Equal(tree.All(), models[i]) || tree.Len() != len(models[i]) || tree.Depth() != depths[i] {
			t.Fatalf("tree %d: %q, no more %q", i, tree.All(), models[i])
		}
		if i > 2 {
			same(t, "of old", tree, models[i])
		}
	}
}

// P3.6: whoever has an answer may do with it what he wants.
func TestAnswersAreNewMemory(t *testing.T) {
	a := Of(pair("a", "1"), pair("b", "2"))
	spoil := func(l []api.Pair) {
		l = l[:cap(l)]
		for i := range l {
			l[i] = pair("spoilt", "")
		}
	}
	spoil(a.All())
	spoil(a.Scan("", "", 2))
	p, _ := a.At(0)
	p.Key = "z"
	less, more, _, _ := a.Split("aa")
	j, _ := Join(a, New())
	for _, other := range []*Tree{less, more, j, a.Drop("x"), a.Put("a", "1"), Union(a, nil), Union(nil, a), Union(a, a), Both(a, a), Minus(a, nil)} {
		*other = Tree{}
	}
	same(t, "the tree", a, model{pair("a", "1"), pair("b", "2")})
	if x, y := New(), New(); x.Put("a", "") == x || x == y {
		t.Error("New")
	}
}

// A nil tree, and one that no call made, is the one without pairs.
func TestNilAndPlainTreesHaveNoPairs(t *testing.T) {
	full := Of(pair("a", "1"), pair("b", "2"))
	for _, e := range []*Tree{nil, {}, new(Tree), New()} {
		if e.Len() != 0 || e.Depth() != 0 || e.Rank("a") != 0 || len(e.All()) != 0 || len(e.Scan("", "", 5)) != 0 {
			t.Error("it has something")
		}
		for _, key := range []string{"", "a"} {
			_, got := e.Get(key)
			_, floor := e.Floor(key)
			_, ceil := e.Ceil(key)
			_, at := e.At(0)
			less, more, v, there := e.Split(key)
			if got || floor || ceil || at || v != "" || there {
				t.Errorf("%q is there", key)
			}
			same(t, "less", less, nil)
			same(t, "more", more, nil)
			same(t, "put", e.Put(key, "x"), model{pair(key, "x")})
			same(t, "dropped", e.Drop(key), nil)
		}
		for _, f := range []*Tree{nil, {}, New()} {
			same(t, "of none", Union(e, f), nil)
			same(t, "of none", Both(e, f), nil)
			same(t, "of none", Minus(e, f), nil)
			if j, ok := Join(e, f); !ok || j.Len() != 0 || j == nil || len(Diff(e, f)) != 0 {
				t.Error("of none")
			}
		}
		same(t, "union", Union(e, full), full.All())
		same(t, "union", Union(full, e), full.All())
		same(t, "both", Both(e, full), nil)
		same(t, "both", Both(full, e), nil)
		same(t, "minus", Minus(e, full), nil)
		same(t, "minus", Minus(full, e), full.All())
		a, ok := Join(e, full)
		b, fine := Join(full, e)
		if !ok || !fine {
			t.Fatal("join")
		}
		same(t, "joined", a, full.All())
		same(t, "joined", b, full.All())
		if l := Diff(e, full); len(l) != 2 || l[0] != (api.Event{Key: "a", Has: true, Now: "1"}) {
			t.Error(l)
		}
		if l := Diff(full, e); len(l) != 2 || l[1] != (api.Event{Key: "b", Had: true, Old: "2"}) {
			t.Error(l)
		}
	}
}

// P3.9
func TestAtAndRankTurnOneAnotherAround(t *testing.T) {
	r := rand.New(rand.NewSource(11))
	for range 200 {
		tree, want := some(r)
		for i := range len(want) {
			p, ok := tree.At(i)
			if !ok || tree.Rank(p.Key) != i {
				t.Fatalf("%d: %q %t, %d", i, p, ok, tree.Rank(p.Key))
			}
		}
		for _, p := range want {
			if got, ok := tree.At(tree.Rank(p.Key)); !ok || got != p {
				t.Fatalf("%q: %q", p, got)
			}
		}
	}
}

// What two trees share is not gone through: a thousand changes of one great tree are told in no time.
func TestDiffOfGreatTreesThatShare(t *testing.T) {
	var l []api.Pair
	for i := range 200000 {
		l = append(l, pair(fmt.Sprintf("%06d", i), "x"))
	}
	tree := Of(l...)
	for i := range 1000 {
		next := tree.Put(l[i*199].Key, "y").Drop(l[i*199+1].Key).Put(l[i*199].Key+"b", "z")
		d := Diff(tree, next)
		if len(d) != 3 || d[0].Key != l[i*199].Key || !d[0].Has || d[1].Old != "" || d[2].Has {
			t.Fatalf("%+v", d)
		}
		tree = next
	}
}
