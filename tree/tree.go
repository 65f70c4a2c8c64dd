// Package tree is layer 3: see ../../shared/doc/03-tree.md.
package tree

import (
	"slices"
	"strings"

	"tidemark/api"
)

// Tree is a sorted map.
type Tree struct{ root *knot }

// top is the knots of a tree; a nil tree has none.
func (t *Tree) top() *knot {
	if t == nil {
		return nil
	}
	return t.root
}

// New is one without pairs.
func New() *Tree { return &Tree{} }

// Of is a tree of pairs; of two of one key the later one counts.
func Of(l ...api.Pair) *Tree {
	sorted := slices.Clone(l)
	slices.SortStableFunc(sorted, func(a, b api.Pair) int { return strings.Compare(a.Key, b.Key) })
	n := 0
	for _, p := range sorted {
		if n > 0 && sorted[n-1].Key == p.Key {
			n--
		}
		sorted[n] = p
		n++
	}
	return &Tree{build(sorted[:n])}
}

// Len is how many pairs there are; Depth how deep they stand.
func (t *Tree) Len() int { return t.top().len() }

func (t *Tree) Depth() int { return t.top().deep() }

// Get is what a key has.
func (t *Tree) Get(key string) (string, bool) {
	if k := ceil(t.top(), key); k != nil && k.Key == key {
		return k.Value, true
	}
	return "", false
}

// Put is the tree with a pair; Drop without a key.
func (t *Tree) Put(key, value string) *Tree {
	return &Tree{put(t.top(), api.Pair{Key: key, Value: value})}
}

func (t *Tree) Drop(key string) *Tree {
	less, here, more := split(t.top(), key)
	if here == nil {
		return &Tree{t.top()}
	}
	return &Tree{meet(less, more)}
}

// Rank is how many keys are less.
func (t *Tree) Rank(key string) int { return rank(t.top(), key) }

// told is a knot's pair, if there is a knot.
func told(k *knot) (api.Pair, bool) {
	if k == nil {
		return api.Pair{}, false
	}
	return k.Pair, true
}

// At is a pair by its place.
func (t *Tree) At(i int) (api.Pair, bool) { return told(at(t.top(), i)) }

// Floor is the last pair whose key is not more; Ceil the first one whose key is not less.
func (t *Tree) Floor(key string) (api.Pair, bool) { return told(floor(t.top(), key)) }

func (t *Tree) Ceil(key string) (api.Pair, bool) { return told(ceil(t.top(), key)) }

// Scan is the pairs from a key on, ahead of another one, at most so many.
func (t *Tree) Scan(from, to string, most int) []api.Pair {
	return scan(nil, t.top(), from, to, most)
}

// All is all pairs.
func (t *Tree) All() []api.Pair { return t.Scan("", "", t.Len()) }

// Split is what is less than a key, what is more, and what it has.
func (t *Tree) Split(key string) (less, more *Tree, value string, there bool) {
	under, here, over := split(t.top(), key)
	if here != nil {
		value, there = here.Value, true
	}
	return &Tree{under}, &Tree{over}, value, there
}

// Join is all of two trees, of which all keys of the first one are less; nil: they are not.
func Join(a, b *Tree) (*Tree, bool) {
	last, some := a.At(a.Len() - 1)
	first, others := b.At(0)
	if some && others && last.Key >= first.Key {
		return nil, false
	}
	return &Tree{meet(a.top(), b.top())}, true
}

// Union, Minus, Both are trees of two.
func Union(a, b *Tree) *Tree { return &Tree{union(a.top(), b.top())} }

func Minus(a, b *Tree) *Tree { return &Tree{minus(a.top(), b.top())} }

func Both(a, b *Tree) *Tree { return &Tree{both(a.top(), b.top())} }

// Diff is what leads from one tree to another one, by rising keys.
func Diff(a, b *Tree) []api.Event { return diff(nil, a.top(), b.top()) }
