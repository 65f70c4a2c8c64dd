package digest

import (
	"fmt"
	"math"
	"math/rand"
	"slices"
	"strings"
	"testing"

	"tidemark/api"
)

var (
	paper = api.Seed{A: 0x0706050403020100, B: 0x0f0e0d0c0b0a0908}
	seed  = api.Seed{A: 3, B: 1 << 63}
)

// P10.1: the document's example, and others of the paper's authors.
func TestSumIsThePapers(t *testing.T) {
	want := map[int]uint64{
		0: 0x726fdb47dd0e0e31, 1: 0x74f839c593dc67fd, 2: 0x0d6c8009d9a94f5a, 3: 0x85676696d7fb7e2d, 4: 0xcf2794e0277187b7,
		5: 0x18765564cd99a68d, 6: 0xcbc9466e58fee3ce, 7: 0xab0200f58b01d137, 8: 0x93f5f5799a932462, 15: 0xa129ca6149be45e5,
	}
	var b []byte
	for i := range 16 {
		if w, ok := want[i]; ok && Sum(paper, b) != w {
			t.Errorf("%d bytes: %x, not %x", i, Sum(paper, b), w)
		}
		b = append(b, byte(i))
	}
}

// P10.1
func TestSumIsTheModels(t *testing.T) {
	r := rand.New(rand.NewSource(1))
	for n := range 600 {
		k := api.Seed{A: r.Uint64(), B: r.Uint64()}
		b := make([]byte, n)
		r.Read(b)
		was := slices.Clone(b)
		if got := Sum(k, b); got != modelSum(k, b) || !slices.Equal(b, was) {
			t.Fatalf("%d bytes: %x", n, got)
		}
		if s := string(b); Place(k, s) != modelSum(k, b) {
			t.Fatalf("Place of %q", s)
		}
	}
	if Sum(seed, nil) != Sum(seed, []byte{}) || Sum(seed, nil) == Sum(seed, []byte{0}) || Sum(api.Seed{A: 1}, nil) == Sum(api.Seed{B: 1}, nil) {
		t.Error("nothing, and a nought")
	}
}

// P10.1
func TestPairIsOfTexts(t *testing.T) {
	for _, p := range []api.Pair{{}, {Key: "a"}, {Value: "a"}, {Key: "ab", Value: "c"}, {Key: "a", Value: "bc"}, {Key: "\xff", Value: strings.Repeat("é", 300)}} {
		if got := Pair(seed, p); got != modelPair(seed, p.Key, p.Value) {
			t.Errorf("%v: %x", p, got)
		}
	}
	if Pair(seed, api.Pair{Key: "ab", Value: "c"}) == Pair(seed, api.Pair{Key: "a", Value: "bc"}) {
		t.Error("a key's end")
	}
}

// same tells how a tree is unlike a model, at all parts that have pairs and at some that have none.
func same(tree *Tree, m model) error {
	if tree.Root() != m.digest("") || tree.Len() != len(m.m) {
		return fmt.Errorf("root %x, %d pairs", tree.Root(), tree.Len())
	}
	return sameBelow(tree, m, nil)
}

func sameBelow(tree *Tree, m model, path []int) error {
	pairs, e := tree.Pairs(path...)
	if e != api.OK || !slices.Equal(pairs, m.pairs()) {
		return fmt.Errorf("pairs of %v: %v %d, not %v", path, pairs, e, m.pairs())
	}
	digests, e := tree.Parts(path...)
	if len(path) == 4 {
		if e != api.ErrArg || len(digests) != 0 {
			return fmt.Errorf("parts of %v: %v %d", path, digests, e)
		}
		return nil
	}
	if e != api.OK || len(digests) != 16 {
		return fmt.Errorf("parts of %v: %v %d", path, digests, e)
	}
	if len(m.m) == 0 && len(path) > 1 {
		return nil
	}
	for i := range 16 {
		next := append(slices.Clone(path), i)
		part := m.part(pathText(next))
		if digests[i] != part.digest(pathText(next)) {
			return fmt.Errorf("digest of %v: %x", next, digests[i])
		}
		if e := sameBelow(tree, part, next); e != nil {
			return e
		}
	}
	return nil
}

// P10.2, P10.3
func TestTreesAreTheModels(t *testing.T) {
	r := rand.New(rand.NewSource(2))
	keys := near(seed)
	if len(keys) < 40 {
		t.Fatal("too few keys that stand near one another")
	}
	for i := range 12 {
		l := anyPairs(r, keys, 4*i)
		if e := same(Of(seed, l...), modelOf(seed, l)); e != nil {
			t.Fatalf("%v: %v", l, e)
		}
	}
	var all []api.Pair
	for _, key := range keys[:30] {
		all = append(all, api.Pair{Key: key, Value: "v"})
	}
	if e := same(Of(seed, all...), modelOf(seed, all)); e != nil {
		t.Fatal(e)
	}
	odd := []api.Pair{{}, {Key: "\xff\n", Value: "1"}, {Key: strings.Repeat("x", 1000)}}
	if e := same(Of(api.Seed{}, odd...), modelOf(api.Seed{}, odd)); e != nil {
		t.Fatal(e)
	}
}

// P10.2, P10.3
func TestTreeWithoutPairs(t *testing.T) {
	for _, tree := range []*Tree{Of(seed), Of(seed, []api.Pair{}...)} {
		l, e := tree.Parts(15, 0, 3)
		if tree.Root() != 0 || tree.Len() != 0 || e != api.OK || !slices.Equal(l, make([]uint64, 16)) {
			t.Error(tree.Root(), l, e)
		}
		if p, e := tree.Pairs(1, 2, 3, 4); len(p) != 0 || e != api.OK {
			t.Error(p, e)
		}
	}
}

// P10.2
func TestLastOneOfAKey(t *testing.T) {
	l := []api.Pair{{Key: "b", Value: "1"}, {Key: "a", Value: "1"}, {Key: "b", Value: "2"}, {Key: "a", Value: "0"}, {Key: "b", Value: "1"}, {Key: "b", Value: "3"}}
	got, e := Of(seed, l...).Pairs()
	if want := []api.Pair{{Key: "a", Value: "0"}, {Key: "b", Value: "3"}}; e != api.OK || !slices.Equal(got, want) {
		t.Error(got, e)
	}
	if Of(seed, l...).Len() != 2 {
		t.Error(Of(seed, l...).Len())
	}
}

// P10.3
func TestPathsThatAreNone(t *testing.T) {
	tree := Of(seed, api.Pair{Key: "a"}, api.Pair{Key: "b"})
	for i, c := range []struct {
		path         []int
		parts, pairs api.Errno
	}{
		{nil, api.OK, api.OK}, {[]int{}, api.OK, api.OK}, {[]int{0}, api.OK, api.OK}, {[]int{15, 15, 15}, api.OK, api.OK}, {[]int{15, 15, 15, 15}, api.ErrArg, api.OK}, {[]int{0, 0, 0, 0}, api.ErrArg, api.OK}, {[]int{0, 0, 0, 0, 0}, api.ErrArg, api.ErrArg},
		{[]int{16}, api.ErrArg, api.ErrArg}, {[]int{-1}, api.ErrArg, api.ErrArg}, {[]int{0, 16}, api.ErrArg, api.ErrArg}, {[]int{0, 0, -1}, api.ErrArg, api.ErrArg}, {[]int{0, 0, 0, 16}, api.ErrArg, api.ErrArg}, {[]int{math.MinInt}, api.ErrArg, api.ErrArg}, {[]int{math.MaxInt, 0}, api.ErrArg, api.ErrArg}, {make([]int, 100000), api.ErrArg, api.ErrArg},
	} {
		l, e := tree.Parts(c.path...)
		if e != c.parts || e != api.OK && len(l) != 0 || e == api.OK && len(l) != 16 {
			t.Errorf("%d: parts %v %d", i, l, e)
		}
		p, e := tree.Pairs(c.path...)
		if e != c.pairs || e != api.OK && len(p) != 0 {
			t.Errorf("%d: pairs %v %d", i, p, e)
		}
	}
}

// P10.3, P10.4
func TestTreeOfNobody(t *testing.T) {
	one := Of(seed, api.Pair{Key: "a"})
	for _, tree := range []*Tree{nil, {}} {
		if tree.Root() != 0 || tree.Len() != 0 {
			t.Error(tree.Root(), tree.Len())
		}
		for _, path := range [][]int{nil, {16}, {0, 0, 0, 0, 0}} {
			l, e := tree.Parts(path...)
			p, e2 := tree.Pairs(path...)
			if len(l) != 0 || e != api.ErrNil || len(p) != 0 || e2 != api.ErrNil {
				t.Error(l, e, p, e2)
			}
		}
		for _, two := range [][2]*Tree{{tree, one}, {one, tree}, {tree, tree}, {tree, nil}, {nil, Of(api.Seed{})}} {
			if l, talk, e := Unlike(two[0], two[1]); len(l) != 0 || talk != (api.Talk{}) || e != api.ErrNil {
				t.Error(l, talk, e)
			}
		}
	}
}

// P10.4
func TestSeedsThatAreUnlike(t *testing.T) {
	p := api.Pair{Key: "a"}
	for _, k := range []api.Seed{{A: seed.A}, {B: seed.B}, {A: seed.B, B: seed.A}, {}} {
		for _, l := range [][]api.Pair{nil, {p}} {
			if keys, talk, e := Unlike(Of(seed, l...), Of(k, l...)); len(keys) != 0 || talk != (api.Talk{}) || e != api.ErrArg {
				t.Error(k, keys, talk, e)
			}
		}
	}
}

// P10.4, P10.6
func TestUnlikeIsTheModels(t *testing.T) {
	r := rand.New(rand.NewSource(3))
	keys := near(seed)
	for range 25 {
		l := anyPairs(r, keys, 30)
		m := append(slices.Clone(l), anyPairs(r, keys, 4)...)
		if r.Intn(4) == 0 {
			m = anyPairs(r, keys, 10)
		}
		a, b := modelOf(seed, l), modelOf(seed, m)
		want, talk := modelUnlike(a, b), modelTalk(a, b, "")
		talk.Digests++
		got, gotTalk, e := Unlike(Of(seed, l...), Of(seed, m...))
		if !slices.Equal(got, want) || gotTalk != talk || e != api.OK {
			t.Fatalf("%v, %v: %v %v %d, not %v %v", l, m, got, gotTalk, e, want, talk)
		}
		if turned, t2, e := Unlike(Of(seed, m...), Of(seed, l...)); !slices.Equal(turned, want) || t2 != talk || e != api.OK {
			t.Fatalf("turned: %v %v %d", turned, t2, e)
		}
	}
}

// P10.4: of two pairs of one part by four digits just one is unlike, and both are told.
func TestUnlikeWithinOnePart(t *testing.T) {
	by := map[uint64]string{}
	for i := 0; ; i++ {
		key := fmt.Sprint(i)
		other, ok := by[Place(seed, key)>>48]
		by[Place(seed, key)>>48] = key
		if !ok {
			continue
		}
		a := []api.Pair{{Key: key, Value: "1"}, {Key: other, Value: "1"}}
		for _, b := range [][]api.Pair{{a[0], {Key: other, Value: "2"}}, {a[0]}, {{Key: other, Value: ""}, a[0]}} {
			l, talk, e := Unlike(Of(seed, a...), Of(seed, b...))
			if !slices.Equal(l, []string{other}) || talk != (api.Talk{Digests: 65, Pairs: 2 + len(b)}) || e != api.OK {
				t.Error(l, talk, e)
			}
		}
		if l, talk, e := Unlike(Of(seed), Of(seed, a...)); len(l) != 2 || talk != (api.Talk{Digests: 65, Pairs: 2}) || e != api.OK {
			t.Error(l, talk, e)
		}
		return
	}
}

// P10.5
func TestTreesOfOneMapAreAlike(t *testing.T) {
	r := rand.New(rand.NewSource(4))
	for range 200 {
		var l, spare []api.Pair
		for i := range r.Intn(60) {
			p := api.Pair{Key: fmt.Sprint(i), Value: fmt.Sprint(r.Intn(9))}
			l = append(l, p)
			if r.Intn(3) == 0 {
				spare = append(spare, api.Pair{Key: p.Key, Value: "x"})
			}
		}
		m := slices.Clone(l)
		r.Shuffle(len(m), func(i, j int) { m[i], m[j] = m[j], m[i] })
		a, b := Of(seed, l...), Of(seed, append(spare, m...)...)
		if keys, talk, e := Unlike(a, b); a.Root() != b.Root() || a.Len() != b.Len() || len(keys) != 0 || talk != (api.Talk{Digests: 1}) || e != api.OK {
			t.Fatal(l, keys, talk, e)
		}
	}
}

// P10.6
func TestUnlikeOfManyPairs(t *testing.T) {
	var l []api.Pair
	for i := range 20000 {
		l = append(l, api.Pair{Key: fmt.Sprint(i), Value: "v"})
	}
	a := Of(seed, l...)
	l[77].Value, l[19999].Key = "w", "new"
	b := Of(seed, l...)
	keys, talk, e := Unlike(a, b)
	if !slices.Equal(keys, []string{"19999", "77", "new"}) || e != api.OK || talk.Digests > 1+3*4*16 || talk.Pairs < 3 || talk.Pairs > 30 {
		t.Error(keys, talk, e)
	}
}

// P10.7
func TestPartsHaveThePairsOnce(t *testing.T) {
	var l []api.Pair
	for i := range 3000 {
		l = append(l, api.Pair{Key: fmt.Sprint(i)})
	}
	tree := Of(seed, l...)
	var whole func(path []int) int
	whole = func(path []int) int {
		pairs, _ := tree.Pairs(path...)
		if len(path) == 4 || len(pairs) == 0 {
			return len(pairs)
		}
		var of []api.Pair
		n := 0
		for i := range 16 {
			next := append(slices.Clone(path), i)
			kids, _ := tree.Pairs(next...)
			of = append(of, kids...)
			n += whole(next)
		}
		slices.SortFunc(of, func(a, b api.Pair) int { return strings.Compare(a.Key, b.Key) })
		if !slices.Equal(of, pairs) {
			t.Fatal(path)
		}
		return n
	}
	if n := whole(nil); n != 3000 {
		t.Error(n)
	}
}

// What is handed in is not changed and not kept; what comes out is new.
func TestMemory(t *testing.T) {
	room := []api.Pair{{Key: "b", Value: "2"}, {Key: "a", Value: "1"}, {Key: "b", Value: "3"}, {Key: "c"}}
	was := slices.Clone(room)
	tree := Of(seed, room[:3]...)
	if !slices.Equal(room, was) {
		t.Error(room)
	}
	clear(room)
	root := tree.Root()
	pairs, _ := tree.Pairs()
	parts, _ := tree.Parts()
	keys, _, _ := Unlike(tree, Of(seed))
	for i := range pairs[:cap(pairs)] {
		pairs[:cap(pairs)][i] = api.Pair{Key: "x"}
	}
	for i := range parts[:cap(parts)] {
		parts[:cap(parts)][i] = 7
	}
	for i := range keys[:cap(keys)] {
		keys[:cap(keys)][i] = "x"
	}
	if got, _ := tree.Pairs(); !slices.Equal(got, []api.Pair{{Key: "a", Value: "1"}, {Key: "b", Value: "3"}}) || tree.Root() != root {
		t.Error(got)
	}
	if e := same(tree, modelOf(seed, was[:3])); e != nil {
		t.Error(e)
	}
	path := make([]int, 1, 9)
	tree.Pairs(path...)
	if !slices.Equal(path[:9], make([]int, 9)) {
		t.Error(path[:9])
	}
}
