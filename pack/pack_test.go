package pack

import (
	"bytes"
	"math"
	"math/rand"
	"slices"
	"strings"
	"testing"

	"tidemark/api"
	"tidemark/wire"
)

// P6.5
func TestPackIsTheChapters(t *testing.T) {
	same(t, "nothing", Pack(nil), []byte{0})
	same(t, "one byte", Pack([]byte("a")), []byte{1, 1, 0, 1, 1, 'a'})
	// 100 noughts: row 0; of the groups the first and the last one; of these the signs 0, 1 and 257.
	if l := Runs(make([]byte, 100)); !slices.Equal(l, []int{1, 0, 1, 0, 0, 1, 257}) {
		t.Fatal(l)
	}
	// The signs 0 and 1 are there three times, 257 once: 1 has a bit, the others two.
	bits := "000000000000" + "1" + strings.Repeat("0", 15) + "1" + "1100000000000000" + "01" + lengths5(slowLengths([]int{3, 3, 1}))
	codes := slowCodes(slowLengths([]int{3, 3, 1}))
	for _, s := range []int{1, 0, 1, 0, 0, 1, 2} {
		bits += codes[s]
	}
	bits += strings.Repeat("0", (8-len(bits)%8)%8)
	want := wire.Text(wire.Number(wire.Number(nil, 100), 1), string(bitsOf(bits)))
	same(t, "noughts", Pack(make([]byte, 100)), want)
	for _, b := range samples() {
		same(t, "a sample", Pack(b), slowPack(b))
	}
}

func lengths5(l []int) string {
	s := ""
	for _, n := range l {
		for i := 4; i >= 0; i-- {
			s += string(rune('0' + n>>i&1))
		}
	}
	return s
}

// P6.5: blocks of 4096 bytes and one more, in each of both ways.
func TestPackOfBlocks(t *testing.T) {
	for _, b := range blocks() {
		same(t, "blocks", Pack(b), slowPack(b))
	}
	for n, kinds := range map[int]int{1: 1, 4096: 1, 4097: 2, 8192: 2, 8193: 3} {
		r := wire.Read(Pack(make([]byte, n)))
		if r.Number() != n {
			t.Error(n)
		}
		for range kinds {
			if r.Number(); len(r.Text(4096)) == 0 {
				t.Error("a block of none")
			}
		}
		if r.End() != api.OK {
			t.Error(n, r.End())
		}
	}
}

// P6.5: what is packed lies there only if it is less than the block, not if it is as much.
func TestPackedOnlyIfLess(t *testing.T) {
	found := map[int]int{}
	for n := 1; n < 60; n++ {
		for kinds := 1; kinds < 5; kinds++ {
			b := bytes.Repeat([]byte("abcde")[:kinds], n)[:n]
			r := wire.Read(Pack(b))
			r.Number()
			kind, s := r.Number(), r.Text(4096)
			size := len(slowBits(b)) / 8
			if kind == 1 && (len(s) != size || size >= n) || kind == 0 && (s != string(b) || size < n) || kind > 1 {
				t.Fatalf("%d bytes: kind %d, %d bytes, packed %d", n, kind, len(s), size)
			}
			found[max(-1, min(1, size-n))]++
		}
	}
	if found[-1] == 0 || found[0] == 0 || found[1] == 0 {
		t.Fatal(found)
	}
}

// P6.6, P6.7
func TestUnpackOfPack(t *testing.T) {
	for _, b := range append(samples(), blocks()...) {
		p := Pack(b)
		for _, most := range []int{len(b), len(b) + 1, math.MaxInt} {
			got, e := Unpack(p, most)
			if e != api.OK {
				t.Fatal(len(b), e)
			}
			same(t, "unpacked", got, b)
		}
		if len(b) > 0 {
			for _, most := range []int{math.MinInt, -1, 0, len(b) - 1} {
				got, e := Unpack(p, most)
				refused(t, most, got, e, api.ErrLong)
			}
		}
	}
	if got, e := Unpack([]byte{0}, math.MinInt); e != api.OK || len(got) != 0 {
		t.Error(e)
	}
}

// P6.6: a number at the beginning that is too great comes first, whatever stands behind; one that is none is no pack.
func TestUnpackLooksAtTheNumberFirst(t *testing.T) {
	for _, n := range []int{1, 255, 256, 4096, 1 << 40, math.MaxInt} {
		for _, tail := range []string{"", "x", "\x01\x01\x01\x05abcde"} {
			got, e := Unpack(append(wire.Number(nil, n), tail...), n-1)
			refused(t, n, got, e, api.ErrLong)
			got, e = Unpack(append(wire.Number(nil, n), tail...), n)
			refused(t, n, got, e, api.ErrPack)
		}
	}
	for _, b := range []string{"", "\x09", "\x01", "\x01\x00", "\x02\x00\x05", "\x02\x05", "\x08\x80\x00\x00\x00\x00\x00\x00\x00", "\xff\xff"} {
		for _, most := range []int{-1, 0, 9, math.MaxInt} {
			got, e := Unpack([]byte(b), most)
			refused(t, b, got, e, api.ErrPack)
		}
	}
}

// P6.6: bytes that tell something, but in another form than Pack's.
func TestUnpackOfOtherForms(t *testing.T) {
	text := bytes.Repeat([]byte("banana "), 20)
	squeezed := string(squeeze(text))
	head := wire.Number(nil, len(text))
	cases := map[string][]byte{
		"plain, where packed is less": wire.Text(wire.Number(head, 0), string(text)),
		"packed, where plain is less": wire.Text(wire.Number(wire.Number(nil, 3), 1), string(squeeze([]byte("abc")))),
		"a kind 2":                    wire.Text(wire.Number(head, 2), squeezed),
		"a byte behind":               append(Pack(text), 0),
		"a bit behind":                wire.Text(wire.Number(head, 1), squeezed+"\x00"),
		"a byte less":                 Pack(text)[:len(Pack(text))-1],
		"bits less":                   wire.Text(wire.Number(head, 1), squeezed[:len(squeezed)-1]),
		"no bits":                     wire.Text(wire.Number(head, 1), ""),
		"one bit":                     wire.Text(wire.Number(head, 1), "\x80"),
		"no block":                    head,
		"two short blocks":            wire.Text(wire.Number(wire.Text(wire.Number(wire.Number(nil, 2), 0), "a"), 0), "b"),
		"a long block":                wire.Text(wire.Number(wire.Number(nil, 2), 0), "abc"),
		"an empty block":              wire.Text(wire.Number(wire.Number(nil, 0), 0), ""),
		"an empty one ahead":          append(wire.Text(wire.Number(head, 0), ""), Pack(text)[len(head):]...),
		"another count":               append(wire.Number(nil, len(text)-1), Pack(text)[len(head):]...),
		"a greater count":             append(wire.Number(nil, len(text)+1), Pack(text)[len(head):]...),
		"a count as two bytes":        append([]byte{2, 0, byte(len(text))}, Pack(text)[len(head):]...),
	}
	if got, e := Unpack(wire.Text(wire.Number(head, 1), squeezed), 1000); e != api.OK || !bytes.Equal(got, text) {
		t.Fatal("the test's own form", e)
	}
	for name, b := range cases {
		got, e := Unpack(b, 100000)
		refused(t, name, got, e, api.ErrPack)
	}
	// The last bits up to a whole byte are noughts.
	filled := []byte(squeezed)
	filled[len(filled)-1] |= 1
	if filled[len(filled)-1] != squeezed[len(squeezed)-1] {
		got, e := Unpack(wire.Text(wire.Number(head, 1), string(filled)), 1000)
		refused(t, "filled", got, e, api.ErrPack)
	}
}

// P6.6: other codes than those by how often each sign is there are none of Pack's.
func TestUnpackOfOtherCodes(t *testing.T) {
	block := bytes.Repeat([]byte("abcd"), 30)
	turned, row := Turn(block)
	l := Runs(Front(turned))
	write := func(row int, lengths []int) []byte {
		codes, e := Codes(lengths)
		if e != api.OK {
			t.Fatal(e)
		}
		var w bitWriter
		w.put(row, rowBits)
		w.putLengths(lengths)
		for _, s := range l {
			w.put(codes[s], lengths[s])
		}
		return wire.Text(wire.Number(wire.Number(nil, len(block)), 1), string(w.b))
	}
	lengths, _ := Lengths(weigh(l))
	same(t, "the test's own form", write(row, lengths), Pack(block))
	longer := slices.Clone(lengths)
	for i, n := range longer {
		if n > 0 {
			longer[i] = n + 1
		}
	}
	more := slices.Clone(longer)
	more[100] = 31
	for name, b := range map[string][]byte{"longer codes": write(row, longer), "one more": write(row, more), "another row": write(row+1, lengths), "a row beyond": write(4095, lengths)} {
		got, e := Unpack(b, 1000)
		refused(t, name, got, e, api.ErrPack)
	}
}

// P6.6: bytes of which some are others are no pack, or Pack of other bytes.
func TestUnpackOfAnything(t *testing.T) {
	r := rand.New(rand.NewSource(9))
	text := bytes.Repeat([]byte("one two three "), 12)
	good := Pack(text)
	check := func(b []byte) {
		t.Helper()
		was := bytes.Clone(b)
		got, e := Unpack(b, 1<<20)
		if !bytes.Equal(b, was) {
			t.Fatal("changed")
		}
		if e == api.OK && !bytes.Equal(Pack(got), b) || e != api.OK && len(got) != 0 || e != api.OK && e != api.ErrPack && e != api.ErrLong {
			t.Fatalf("%x: %d", b, e)
		}
	}
	for i := range good {
		check(good[:i])
		for turn := 1; turn < 256; turn++ {
			b := bytes.Clone(good)
			b[i] ^= byte(turn)
			check(b)
		}
	}
	for range 5000 {
		b := noise(r, r.Intn(60), 256)
		check(b)
		check(wire.Text(wire.Number(wire.Number(nil, 1+r.Intn(5000)), r.Intn(2)), string(b)))
	}
}

// P6.8
func TestPackIsNoLonger(t *testing.T) {
	r := rand.New(rand.NewSource(10))
	for _, n := range []int{0, 1, 2, 50, 255, 256, 4095, 4096, 4097, 12288, 20000, 70000} {
		b := noise(r, n, 256)
		if size := len(Pack(b)); size > n+17*((n+4095)/4096)+17 {
			t.Errorf("%d bytes: %d", n, size)
		}
	}
	if n := len(Pack(make([]byte, 1<<16))); n > 300 {
		t.Error("noughts are not packed", n)
	}
}
