package wire

import "tidemark/api"

// sumSize is how many bytes the sum of a frame has.
const sumSize = 4

// fourBits is what the lowest four bits of a sum add to it, once they are shifted out.
var fourBits = [16]uint32{
	0x00000000, 0x2b2c2bee, 0x565857dc, 0x7d747c32,
	0xacb0afb8, 0x879c8456, 0xfae8f864, 0xd1c4d38a,
	0xc8df352f, 0xe3f31ec1, 0x9e8762f3, 0xb5ab491d,
	0x646f9a97, 0x4f43b179, 0x3237cd4b, 0x191be6a5,
}

// Sum is the sum of bytes.
func Sum(b []byte) uint32 {
	c := ^uint32(0)
	for _, x := range b {
		c ^= uint32(x)
		c = c>>4 ^ fourBits[c&15]
		c = c>>4 ^ fourBits[c&15]
	}
	return ^c
}

// Frame is a payload between its length and the sum of both.
func Frame(p []byte) ([]byte, api.Errno) {
	if len(p) > api.MaxFrame {
		return nil, api.ErrLong
	}
	b := append(add(make([]byte, 0, 9+len(p)+sumSize), len(p)), p...)
	return addSum(b, Sum(b)), api.OK
}

// addSum puts a sum behind bytes, the lowest byte first.
func addSum(b []byte, c uint32) []byte {
	return append(b, byte(c), byte(c>>8), byte(c>>16), byte(c>>24))
}

// getSum is the sum with which bytes begin.
func getSum(b []byte) uint32 {
	return uint32(b[0]) | uint32(b[1])<<8 | uint32(b[2])<<16 | uint32(b[3])<<24
}

// Next is the payload of the frame with which bytes begin, and how many it has.
func Next(b []byte) ([]byte, int, api.Errno) {
	n, head, e := number(b)
	if e != api.OK {
		return nil, 0, e
	}
	if n > api.MaxFrame {
		return nil, 0, api.ErrLong
	}
	end := head + n
	if len(b) < end+sumSize {
		return nil, 0, api.ErrShort
	}
	if Sum(b[:end]) != getSum(b[end:]) {
		return nil, 0, api.ErrSum
	}
	return own(b[head:end], 0), end + sumSize, api.OK
}

// All is the payloads of the frames with which bytes begin, and how many bytes they have.
func All(b []byte) ([][]byte, int) {
	var l [][]byte
	at := 0
	for {
		p, n, e := Next(b[at:])
		if e != api.OK {
			return l, at
		}
		l = append(l, p)
		at += n
	}
}
