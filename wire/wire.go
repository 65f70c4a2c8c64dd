// Package wire is layer 1: see ../../shared/doc/01-wire.md.
package wire

import (
	"math/bits"

	"tidemark/api"
)

// own is bytes in new memory, with room for some more: what is put behind them must not come to lie in the room of whoever handed b in.
func own(b []byte, more int) []byte {
	return append(make([]byte, 0, len(b)+more), b...)
}

// add puts a number behind bytes that are the program's own.
func add(b []byte, n int) []byte {
	u := uint64(max(n, 0))
	k := (bits.Len64(u) + 7) / 8
	b = append(b, byte(k))
	return addBytes(b, u, k)
}

// addBytes puts the lowest k bytes of a word, the highest one first.
func addBytes(b []byte, u uint64, k int) []byte {
	for i := k - 1; i >= 0; i-- {
		b = append(b, byte(u>>(8*i)))
	}
	return b
}

// Number puts a number behind bytes: how many bytes it has, and these.
func Number(b []byte, n int) []byte { return add(own(b, 9), n) }

// Numbers puts any number of them.
func Numbers(b []byte, l ...int) []byte {
	out := own(b, 2*len(l))
	for _, n := range l {
		out = add(out, n)
	}
	return out
}

// Signed puts a number with a sign: eight bytes, the highest one first.
func Signed(b []byte, n int64) []byte { return addBytes(own(b, 8), uint64(n), 8) }

// Text puts a text: how many bytes it has, and these.
func Text(b []byte, s string) []byte {
	return append(add(own(b, 9+len(s)), len(s)), s...)
}

// Flag puts a yes or a no.
func Flag(b []byte, yes bool) []byte {
	if yes {
		return Number(b, 1)
	}
	return Number(b, 0)
}

// number is the number with which bytes begin, and how many bytes it has.
func number(b []byte) (int, int, api.Errno) {
	if len(b) == 0 {
		return 0, 0, api.ErrShort
	}
	k := int(b[0])
	switch {
	case k > 8:
		return 0, 0, api.ErrForm
	case len(b) <= k:
		return 0, 0, api.ErrShort
	case k > 0 && b[1] == 0:
		return 0, 0, api.ErrForm
	case k == 8 && b[1] > 0x7f:
		return 0, 0, api.ErrRange
	}
	n := 0
	for _, c := range b[1 : 1+k] {
		n = n<<8 | int(c)
	}
	return n, 1 + k, api.OK
}
