package pack

// bitWriter puts bits one behind the other, the first one the highest of a byte.
type bitWriter struct {
	b []byte
	n int
}

// put puts the lowest bits of a number, the highest of these first.
func (w *bitWriter) put(x, wide int) {
	for i := wide - 1; i >= 0; i-- {
		if w.n%8 == 0 {
			w.b = append(w.b, 0)
		}
		w.b[w.n/8] |= byte(x>>i&1) << (7 - w.n%8)
		w.n++
	}
}

func (w *bitWriter) flag(yes bool) {
	if yes {
		w.put(1, 1)
		return
	}
	w.put(0, 1)
}

// bitReader reads what a bitWriter put.
type bitReader struct {
	b    []byte
	n    int
	over bool // it was asked for more bits than there are
}

// take is the next bits as a number; noughts behind the end.
func (r *bitReader) take(wide int) int {
	x := 0
	for range wide {
		x = x<<1 | r.bit()
	}
	return x
}

func (r *bitReader) bit() int {
	if r.n == 8*len(r.b) {
		r.over = true
		return 0
	}
	x := int(r.b[r.n/8]) >> (7 - r.n%8) & 1
	r.n++
	return x
}

func (r *bitReader) flag() bool { return r.bit() == 1 }
