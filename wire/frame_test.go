package wire

import (
	"bytes"
	"math"
	"math/rand"
	"testing"

	"tidemark/api"
)

func frame(t *testing.T, p []byte) []byte {
	t.Helper()
	f, e := Frame(p)
	if e != api.OK {
		t.Fatal(e)
	}
	return f
}

// payloads are some of many lengths.
func payloads() [][]byte {
	r := rand.New(rand.NewSource(5))
	l := [][]byte{nil, {0}, []byte("a"), {0xff, 0, 0xff}}
	for _, n := range []int{254, 255, 256, 257, 1000} {
		p := make([]byte, n)
		r.Read(p)
		l = append(l, p)
	}
	return l
}

// P1.3, P1.4
func TestNextIsThePayload(t *testing.T) {
	l := append(payloads(), make([]byte, api.MaxFrame))
	for _, p := range l {
		f := frame(t, p)
		for _, tail := range [][]byte{nil, {0}, {9, 9, 9}, f} {
			got, n, e := Next(append(bytes.Clone(f), tail...))
			if e != api.OK || n != len(f) || !bytes.Equal(got, p) {
				t.Errorf("a payload of %d bytes: %d bytes, %d, %d", len(p), len(got), n, e)
			}
		}
	}
}

// P1.3
func TestNextRefuses(t *testing.T) {
	for b, want := range wrongNumbers() {
		if p, n, e := Next([]byte(b)); e != want || n != 0 || len(p) != 0 {
			t.Errorf("%x: %d, not %d", b, e, want)
		}
	}
	for _, n := range []int{api.MaxFrame + 1, 1 << 40, math.MaxInt} {
		if p, size, e := Next(Number(nil, n)); e != api.ErrLong || size != 0 || len(p) != 0 {
			t.Errorf("of %d bytes: %d", n, e)
		}
	}
	long := append(Number(nil, api.MaxFrame+1), make([]byte, api.MaxFrame+1)...)
	long = addSum(long, slowSum(long))
	if _, _, e := Next(long); e != api.ErrLong {
		t.Errorf("a whole frame that is too long: %d", e)
	}
	if _, _, e := Next(Number(nil, api.MaxFrame)); e != api.ErrShort {
		t.Errorf("the longest one without its payload: %d", e)
	}
	f := frame(t, []byte("abc"))
	for i := len(f) - 4; i < len(f); i++ {
		g := bytes.Clone(f)
		g[i]++
		if p, n, e := Next(g); e != api.ErrSum || n != 0 || len(p) != 0 {
			t.Errorf("a sum that is another one at %d: %x %d %d", i, p, n, e)
		}
	}
}

// P1.3
func TestNextIsNewMemory(t *testing.T) {
	room := append(frame(t, []byte("abc")), frame(t, []byte("def"))...)
	was := bytes.Clone(room)
	p, _, _ := Next(room)
	all := p[:cap(p)]
	for i := range all {
		all[i] = 0x99
	}
	if !bytes.Equal(room, was) {
		t.Error("the payload is a piece of what was handed in")
	}
	l, _ := All(room)
	for i := range room {
		room[i] = 0
	}
	if len(l) != 2 || string(l[0]) != "abc" || string(l[1]) != "def" {
		t.Fatal("All keeps what was handed in")
	}
	first := l[0][:cap(l[0])]
	for i := range first {
		first[i] = 0x99
	}
	if string(l[1]) != "def" {
		t.Error("two payloads share memory")
	}
}

// P1.3
func TestAllGoesOnAsLongAsThereAreFrames(t *testing.T) {
	var whole []byte
	for _, p := range payloads() {
		whole = append(whole, frame(t, p)...)
	}
	cut := frame(t, []byte("cut off"))
	turned := frame(t, []byte("turned"))
	turned[3] ^= 1
	behind := [][]byte{nil, {0}, {9}, cut[:len(cut)-1], turned, append(turned, cut...), Number(nil, api.MaxFrame+1)}
	for _, tail := range behind {
		l, n := All(append(bytes.Clone(whole), tail...))
		if n != len(whole) || len(l) != len(payloads()) {
			t.Fatalf("%d payloads, %d bytes of %d", len(l), n, len(whole))
		}
		for i, p := range payloads() {
			if !bytes.Equal(l[i], p) {
				t.Errorf("payload %d", i)
			}
		}
	}
	for _, b := range [][]byte{nil, {}, {9}, turned} {
		if l, n := All(b); len(l) != 0 || n != 0 {
			t.Errorf("of %x: %d payloads, %d bytes", b, len(l), n)
		}
	}
}

// P1.7
func TestTurnedFrameIsNone(t *testing.T) {
	for _, p := range payloads() {
		f := frame(t, p)
		for i := range f {
			g := bytes.Clone(f)
			for turn := 1; turn < 256; turn++ {
				g[i] = f[i] ^ byte(turn)
				if _, n, e := Next(g); e == api.OK && n == len(f) {
					t.Fatalf("of %d bytes, byte %d turned by %x", len(p), i, turn)
				}
			}
		}
	}
}

// P1.8
func TestCutFrameIsShort(t *testing.T) {
	for _, p := range payloads() {
		f := frame(t, p)
		for n := range f {
			if got, size, e := Next(f[:n]); e != api.ErrShort || size != 0 || len(got) != 0 {
				t.Fatalf("%d bytes of %d: %d", n, len(f), e)
			}
		}
	}
}
