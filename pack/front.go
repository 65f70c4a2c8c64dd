package pack

import "bytes"

// shelf is all bytes in the order in which they stand.
type shelf [byteKinds]byte

func newShelf() *shelf {
	var s shelf
	for i := range s {
		s[i] = byte(i)
	}
	return &s
}

// raise brings the byte at a place to the front.
func (s *shelf) raise(at int) byte {
	x := s[at]
	copy(s[1:at+1], s[:at])
	s[0] = x
	return x
}

// Front is where each byte stands in a list of which those that came last stand in front.
func Front(b []byte) []byte {
	s, out := newShelf(), make([]byte, len(b))
	for i, x := range b {
		at := bytes.IndexByte(s[:], x)
		s.raise(at)
		out[i] = byte(at)
	}
	return out
}

// Back is the bytes of which these are the places.
func Back(b []byte) []byte {
	s, out := newShelf(), make([]byte, len(b))
	for i, at := range b {
		out[i] = s.raise(int(at))
	}
	return out
}
