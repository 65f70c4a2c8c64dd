package tree

import "tidemark/api"

// at is the knot ahead of which i others stand; nil, if there is none.
func at(k *knot, i int) *knot {
	for k != nil {
		switch n := k.less.len(); {
		case i < n:
			k = k.less
		case i > n:
			i -= n + 1
			k = k.more
		default:
			return k
		}
	}
	return nil
}

// rank is how many keys are less.
func rank(k *knot, key string) int {
	n := 0
	for k != nil {
		if k.Key < key {
			n += k.less.len() + 1
			k = k.more
		} else {
			k = k.less
		}
	}
	return n
}

// floor is the last knot whose key is not more.
func floor(k *knot, key string) *knot {
	var found *knot
	for k != nil {
		if k.Key > key {
			k = k.less
		} else {
			found, k = k, k.more
		}
	}
	return found
}

// ceil is the first knot whose key is not less.
func ceil(k *knot, key string) *knot {
	var found *knot
	for k != nil {
		if k.Key < key {
			k = k.more
		} else {
			found, k = k, k.less
		}
	}
	return found
}

// scan puts behind l the pairs from a key on, ahead of another one, till l has so many.
func scan(l []api.Pair, k *knot, from, to string, most int) []api.Pair {
	if k == nil || len(l) >= most {
		return l
	}
	ahead := to == "" || k.Key < to
	if from <= k.Key {
		l = scan(l, k.less, from, to, most)
		if ahead && len(l) < most {
			l = append(l, k.Pair)
		}
	}
	if ahead {
		l = scan(l, k.more, from, to, most)
	}
	return l
}
