package kv

import (
	"tidemark/api"
	"tidemark/wire"
)

// How many bytes a key, and a value, has at most: a rune has four.
const (
	keyBytes   = 4 * api.MaxKey
	valueBytes = 4 * api.MaxValue
)

// Put puts operations behind bytes.
func Put(b []byte, l []api.Op) []byte {
	out := wire.Number(b, len(l))
	for _, o := range l {
		out = append(out, wire.Text(wire.Flag(wire.Text(nil, o.Key), o.Has), o.Value)...)
	}
	return out
}

// Get reads operations, at most so many.
func Get(r *wire.Reader, most int) []api.Op {
	var l []api.Op
	for range r.Within(0, most) {
		l = append(l, api.Op{Key: r.Text(keyBytes), Has: r.Flag(), Value: r.Text(valueBytes)})
		if r.Err() != api.OK {
			break
		}
	}
	return l
}
