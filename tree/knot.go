package tree

import "tidemark/api"

// knot is a pair, and what stands below it; nil is none. None is ever changed, so that trees may share them. What stands on both sides is unlike deep by at most one.
type knot struct {
	api.Pair
	less, more *knot
	count      int
	depth      int
}

func (k *knot) len() int {
	if k == nil {
		return 0
	}
	return k.count
}

func (k *knot) deep() int {
	if k == nil {
		return 0
	}
	return k.depth
}

// tie is a pair between two sides that are nearly of one depth.
func tie(less *knot, p api.Pair, more *knot) *knot {
	return &knot{
		Pair:  p,
		less:  less,
		more:  more,
		count: less.len() + 1 + more.len(),
		depth: max(less.deep(), more.deep()) + 1,
	}
}

// level is tie for sides of which one may be deeper by two: its upper pairs go over to the other side.
func level(less *knot, p api.Pair, more *knot) *knot {
	switch {
	case less.deep() > more.deep()+1:
		if mid := less.more; mid.deep() > less.less.deep() {
			return tie(tie(less.less, less.Pair, mid.less), mid.Pair, tie(mid.more, p, more))
		}
		return tie(less.less, less.Pair, tie(less.more, p, more))
	case more.deep() > less.deep()+1:
		if mid := more.less; mid.deep() > more.more.deep() {
			return tie(tie(less, p, mid.less), mid.Pair, tie(mid.more, more.Pair, more.more))
		}
		return tie(tie(less, p, more.less), more.Pair, more.more)
	}
	return tie(less, p, more)
}

// join is a pair between two sides of any depth. It is deeper than the deeper one by at most one, so that level can mend it on the way up.
func join(less *knot, p api.Pair, more *knot) *knot {
	switch {
	case less.deep() > more.deep()+1:
		return level(less.less, less.Pair, join(less.more, p, more))
	case more.deep() > less.deep()+1:
		return level(join(less, p, more.less), more.Pair, more.more)
	}
	return tie(less, p, more)
}

// meet is join without a pair between: the last one of the first side takes that place.
func meet(less, more *knot) *knot {
	if less == nil {
		return more
	}
	rest, last := cutLast(less)
	return join(rest, last, more)
}

// cutLast is all pairs but the last one, and that.
func cutLast(k *knot) (*knot, api.Pair) {
	if k.more == nil {
		return k.less, k.Pair
	}
	rest, last := cutLast(k.more)
	return join(k.less, k.Pair, rest), last
}

// split is what is less than a key, the key's own knot, and what is more.
func split(k *knot, key string) (less, here, more *knot) {
	switch {
	case k == nil:
		return nil, nil, nil
	case key < k.Key:
		less, here, more = split(k.less, key)
		return less, here, join(more, k.Pair, k.more)
	case key > k.Key:
		less, here, more = split(k.more, key)
		return join(k.less, k.Pair, less), here, more
	}
	return k.less, k, k.more
}

// build is the knots of pairs that stand by rising keys.
func build(l []api.Pair) *knot {
	if len(l) == 0 {
		return nil
	}
	mid := len(l) / 2
	return tie(build(l[:mid]), l[mid], build(l[mid+1:]))
}

func put(k *knot, p api.Pair) *knot {
	switch {
	case k == nil:
		return tie(nil, p, nil)
	case p.Key < k.Key:
		return level(put(k.less, p), k.Pair, k.more)
	case p.Key > k.Key:
		return level(k.less, k.Pair, put(k.more, p))
	}
	return tie(k.less, p, k.more)
}
