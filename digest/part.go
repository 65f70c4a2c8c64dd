package digest

import (
	"cmp"
	"slices"
	"sort"
	"strings"

	"tidemark/api"
	"tidemark/wire"
)

const (
	fan     = 16 // parts of a part
	deepest = 4  // digits of the parts that are not parted
)

// placed is a pair, and the digits of its place as one number.
type placed struct {
	api.Pair
	digits uint64
}

// digit is the one by which a part of so many digits is parted.
func (p placed) digit(deep int) int { return int(p.digits>>(4*(deepest-1-deep))) % fan }

// place is pairs by their digits, and of one part by rising keys; of several of one key the last one.
func place(k api.Seed, l []api.Pair) []placed {
	all := make([]placed, 0, len(l))
	for _, p := range l {
		all = append(all, placed{p, Place(k, p.Key) >> (64 - 4*deepest)})
	}
	slices.SortStableFunc(all, func(a, b placed) int {
		return cmp.Or(cmp.Compare(a.digits, b.digits), strings.Compare(a.Key, b.Key))
	})
	var last []placed
	for i, p := range all {
		if i+1 == len(all) || all[i+1].Key != p.Key {
			last = append(last, p)
		}
	}
	return last
}

// part is the pairs of which some digits are alike, and what that part and its parts digest to. A nil one has no pairs.
type part struct {
	digest uint64
	all    []placed
	kids   []*part // none, if it is not parted
}

// build is the part that placed pairs are, by so many digits.
func build(k api.Seed, all []placed, deep int) *part {
	if len(all) == 0 {
		return nil
	}
	p := &part{all: all}
	if deep == deepest {
		p.digest = Sum(k, pairBytes(k, all))
		return p
	}
	var b []byte
	for i := range fan {
		n := sort.Search(len(all), func(j int) bool { return all[j].digit(deep) > i })
		kid := build(k, all[:n], deep+1)
		p.kids, all = append(p.kids, kid), all[n:]
		b = addDigest(b, kid.told())
	}
	p.digest = Sum(k, b)
	return p
}

// pairBytes is what a part that is not parted is the digest of.
func pairBytes(k api.Seed, all []placed) []byte {
	b := wire.Number(nil, len(all))
	for _, p := range all {
		b = addDigest(b, Pair(k, p.Pair))
	}
	return b
}

// told is a part's digest.
func (p *part) told() uint64 {
	if p == nil {
		return 0
	}
	return p.digest
}

// pairs is a part's pairs, in the order of their places.
func (p *part) pairs() []placed {
	if p == nil {
		return nil
	}
	return p.all
}

// kid is a part of a part that is parted.
func (p *part) kid(i int) *part {
	if p == nil {
		return nil
	}
	return p.kids[i]
}
