package tree

import (
	"maps"
	"math/rand"
	"slices"
	"sort"
	"strconv"
	"testing"

	"tidemark/api"
)

// model is what a tree is to be: its pairs, by rising keys.
type model []api.Pair

func pair(key, value string) api.Pair { return api.Pair{Key: key, Value: value} }

func modelOf(m map[string]string) model {
	var l model
	for _, k := range slices.Sorted(maps.Keys(m)) {
		l = append(l, pair(k, m[k]))
	}
	return l
}

func (l model) asMap() map[string]string {
	m := map[string]string{}
	for _, p := range l {
		m[p.Key] = p.Value
	}
	return m
}

func (l model) put(key, value string) model {
	m := l.asMap()
	m[key] = value
	return modelOf(m)
}

func (l model) drop(key string) model {
	m := l.asMap()
	delete(m, key)
	return modelOf(m)
}

func (l model) rank(key string) int {
	return sort.Search(len(l), func(i int) bool { return l[i].Key >= key })
}

func (l model) at(i int) (api.Pair, bool) {
	if i < 0 || i >= len(l) {
		return api.Pair{}, false
	}
	return l[i], true
}

func (l model) get(key string) (string, bool) {
	v, ok := l.asMap()[key]
	return v, ok
}

func (l model) scan(from, to string, most int) model {
	var out model
	for _, p := range l {
		if p.Key >= from && (to == "" || p.Key < to) && len(out) < most {
			out = append(out, p)
		}
	}
	return out
}

func (l model) union(o model) model {
	m := l.asMap()
	maps.Copy(m, o.asMap())
	return modelOf(m)
}

// only is the pairs whose keys the other one has, or has not.
func (l model) only(o model, has bool) model {
	m := o.asMap()
	var out model
	for _, p := range l {
		if _, ok := m[p.Key]; ok == has {
			out = append(out, p)
		}
	}
	return out
}

func (l model) diff(o model) []api.Event {
	a, b := l.asMap(), o.asMap()
	var out []api.Event
	for _, p := range l.union(o) {
		e := api.Event{Key: p.Key}
		e.Old, e.Had = a[p.Key], slices.Contains(l, pair(p.Key, a[p.Key]))
		e.Now, e.Has = b[p.Key], slices.Contains(o, pair(p.Key, b[p.Key]))
		if e.Had != e.Has || e.Old != e.Now {
			out = append(out, e)
		}
	}
	return out
}

// fewest is f of the chapter.
func fewest(d int) int {
	switch d {
	case 0:
		return 1
	case 1:
		return 2
	}
	return fewest(d-1) + fewest(d-2) + 1
}

// sound holds that knots are sorted, counted, as deep as they tell, and level.
func sound(t *testing.T, k *knot) (count, depth int) {
	t.Helper()
	if k == nil {
		return 0, 0
	}
	under, left := sound(t, k.less)
	over, right := sound(t, k.more)
	count, depth = under+1+over, max(left, right)+1
	if k.count != count || k.depth != depth || left-right > 1 || right-left > 1 {
		t.Fatalf("at %q: %d pairs, told %d; depth %d, told %d; sides %d and %d", k.Key, count, k.count, depth, k.depth, left, right)
	}
	if k.less != nil && k.less.Key >= k.Key || k.more != nil && k.more.Key <= k.Key {
		t.Fatalf("at %q: not sorted", k.Key)
	}
	return count, depth
}

// same holds that a tree has a model's pairs, and stands as it may.
func same(t *testing.T, what string, got *Tree, want model) {
	t.Helper()
	if got == nil {
		t.Fatalf("%s: nil", what)
	}
	if !slices.Equal(got.All(), want) || got.Len() != len(want) {
		t.Fatalf("%s: %q, not %q", what, got.All(), want)
	}
	_, depth := sound(t, got.root)
	if got.Depth() != depth {
		t.Fatalf("%s: depth %d, not %d", what, got.Depth(), depth)
	}
	for d := range depth {
		if len(want) < fewest(d) {
			t.Fatalf("%s: %d pairs are %d deep", what, len(want), depth)
		}
	}
}

// world is the keys of the random tests: some next to one another, some that begin others, the empty one, bytes that are no UTF-8.
var world = func() []string {
	l := []string{"", "a", "a\x00", "a\x00\x00", "aa", "ab", "b", "\x00", "\xff", "\xff\xff", "é", "😀", "A", "Z", "z"}
	for i := range 45 {
		l = append(l, strconv.Itoa(i))
	}
	return l
}()

func someKey(r *rand.Rand) string { return world[r.Intn(len(world))] }

// some is a random tree, made in one of several ways, and its model.
func some(r *rand.Rand) (*Tree, model) {
	t, l := New(), model{}
	var pairs []api.Pair
	for range r.Intn(len(world)) {
		k, v := someKey(r), strconv.Itoa(r.Intn(3))
		t, l = t.Put(k, v), l.put(k, v)
		pairs = append(pairs, pair(k, v))
	}
	if r.Intn(2) == 0 {
		t = Of(pairs...)
	}
	for range r.Intn(10) {
		k := someKey(r)
		t, l = t.Drop(k), l.drop(k)
	}
	return t, l
}
