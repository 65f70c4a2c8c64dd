package digest

import (
	"math/bits"

	"tidemark/api"
	"tidemark/wire"
)

// wordSize is how many bytes a word has.
const wordSize = 8

// sip is the four words that a sum is made of.
type sip struct{ a, b, c, d uint64 }

func (s *sip) mix() {
	s.a += s.b
	s.b = bits.RotateLeft64(s.b, 13) ^ s.a
	s.a = bits.RotateLeft64(s.a, 32)
	s.c += s.d
	s.d = bits.RotateLeft64(s.d, 16) ^ s.c
	s.a += s.d
	s.d = bits.RotateLeft64(s.d, 21) ^ s.a
	s.c += s.b
	s.b = bits.RotateLeft64(s.b, 17) ^ s.c
	s.c = bits.RotateLeft64(s.c, 32)
}

// take mixes a word in.
func (s *sip) take(w uint64) {
	s.d ^= w
	s.mix()
	s.mix()
	s.a ^= w
}

// word is at most eight bytes as a number, the lowest one first.
func word(b []byte) uint64 {
	var w uint64
	for i, x := range b {
		w |= uint64(x) << (8 * i)
	}
	return w
}

// Sum is the digest of bytes.
func Sum(k api.Seed, b []byte) uint64 {
	s := sip{k.A ^ 0x736f6d6570736575, k.B ^ 0x646f72616e646f6d, k.A ^ 0x6c7967656e657261, k.B ^ 0x7465646279746573}
	size := uint64(len(b)) << 56
	for ; len(b) >= wordSize; b = b[wordSize:] {
		s.take(word(b[:wordSize]))
	}
	s.take(word(b) | size)
	s.c ^= 0xff
	for range 4 {
		s.mix()
	}
	return s.a ^ s.b ^ s.c ^ s.d
}

// Place is where a key stands: the digest of it.
func Place(k api.Seed, key string) uint64 { return Sum(k, []byte(key)) }

// Pair is the digest of a key and what it has.
func Pair(k api.Seed, p api.Pair) uint64 {
	return Sum(k, wire.Text(wire.Text(nil, p.Key), p.Value))
}

// addDigest puts a digest behind bytes that are the program's own: eight bytes, the highest one first.
func addDigest(b []byte, d uint64) []byte { return append(b, wire.Signed(nil, int64(d))...) }
