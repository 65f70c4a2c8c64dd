package tree

import "tidemark/api"

func union(a, b *knot) *knot {
	switch {
	case a == nil || a == b:
		return b
	case b == nil:
		return a
	}
	less, _, more := split(a, b.Key)
	return join(union(less, b.less), b.Pair, union(more, b.more))
}

func minus(a, b *knot) *knot {
	switch {
	case a == nil || a == b:
		return nil
	case b == nil:
		return a
	}
	less, _, more := split(a, b.Key)
	return meet(minus(less, b.less), minus(more, b.more))
}

func both(a, b *knot) *knot {
	switch {
	case a == b:
		return a
	case a == nil || b == nil:
		return nil
	}
	less, here, more := split(b, a.Key)
	under, over := both(a.less, less), both(a.more, more)
	if here == nil {
		return meet(under, over)
	}
	return join(under, a.Pair, over)
}

// diff puts behind l what leads from a to b. What both share is not gone through: between two trees of which one was made of the other, little else is left.
func diff(l []api.Event, a, b *knot) []api.Event {
	switch {
	case a == b:
		return l
	case a == nil:
		l = diff(l, nil, b.less)
		l = append(l, api.Event{Key: b.Key, Has: true, Now: b.Value})
		return diff(l, nil, b.more)
	}
	less, here, more := split(b, a.Key)
	l = diff(l, a.less, less)
	switch {
	case here == nil:
		l = append(l, api.Event{Key: a.Key, Had: true, Old: a.Value})
	case here.Value != a.Value:
		l = append(l, api.Event{Key: a.Key, Had: true, Old: a.Value, Has: true, Now: here.Value})
	}
	return diff(l, a.more, more)
}
