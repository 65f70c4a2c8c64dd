package wire

import (
	"bytes"
	"encoding/hex"
	"math"
	"math/rand"
	"strings"
	"testing"

	"tidemark/api"
)

// numbers are those at which a number gets another byte, and those at the ends.
func numbers() []int {
	l := []int{0, 1, 5, 127, 128, 300, math.MaxInt}
	for k := 8; k < 63; k += 8 {
		l = append(l, 1<<k-1, 1<<k, 1<<k+1)
	}
	return append(l, 1<<62, math.MaxInt-1)
}

// P1.1
func TestNumberIsItsBytes(t *testing.T) {
	for want, n := range map[string]int{
		"00": 0, "0101": 1, "0105": 5, "01ff": 255, "020100": 256, "02012c": 300, "02ffff": 65535,
		"03010000": 65536, "0480000000": 1 << 31, "06010000000000": 1 << 40,
		"087fffffffffffffff": math.MaxInt, "07ffffffffffffff": 1<<56 - 1, "080100000000000000": 1 << 56,
	} {
		if got := hex.EncodeToString(Number(nil, n)); got != want {
			t.Errorf("Number %d: %s, not %s", n, got, want)
		}
	}
	for _, n := range []int{-1, -256, math.MinInt} {
		if got := Number([]byte{7}, n); !bytes.Equal(got, []byte{7, 0}) {
			t.Errorf("Number %d: %x", n, got)
		}
	}
	if got := Number([]byte{9, 8}, 300); !bytes.Equal(got, []byte{9, 8, 2, 1, 0x2c}) {
		t.Errorf("behind bytes: %x", got)
	}
}

// P1.1
func TestNumbersAreEachBehindTheOther(t *testing.T) {
	l := append(numbers(), -1, -300, math.MinInt)
	want := []byte{3}
	for _, n := range l {
		want = Number(want, n)
	}
	if got := Numbers([]byte{3}, l...); !bytes.Equal(got, want) {
		t.Errorf("%x, not %x", got, want)
	}
	if got := Numbers([]byte{3}); !bytes.Equal(got, []byte{3}) {
		t.Errorf("no numbers: %x", got)
	}
	if got := Numbers(nil); len(got) != 0 {
		t.Errorf("nothing at all: %x", got)
	}
}

// P1.1
func TestSignedIsEightBytes(t *testing.T) {
	for want, n := range map[string]int64{
		"0000000000000000": 0, "0000000000000001": 1, "ffffffffffffffff": -1, "fffffffffffffffe": -2,
		"7fffffffffffffff": math.MaxInt64, "8000000000000000": math.MinInt64, "0102030405060708": 0x0102030405060708,
	} {
		if got := hex.EncodeToString(Signed([]byte{0xaa}, n)); got != "aa"+want {
			t.Errorf("Signed %d: %s, not %s", n, got, want)
		}
	}
}

// P1.1
func TestTextIsItsLengthAndItsBytes(t *testing.T) {
	long := strings.Repeat("x", 300)
	for s, want := range map[string]string{
		"": "00", "a": "010161", "\xff\x00": "0102ff00", "é": "0102c3a9", long: "02012c" + hex.EncodeToString([]byte(long)),
	} {
		if got := hex.EncodeToString(Text([]byte{0xaa}, s)); got != "aa"+want {
			t.Errorf("Text %q: %s, not %s", s, got, want)
		}
	}
}

// P1.1
func TestFlagIsOneOrNought(t *testing.T) {
	if got := Flag(Flag([]byte{4}, true), false); !bytes.Equal(got, []byte{4, 1, 1, 0}) {
		t.Errorf("%x", got)
	}
}

// slowSum is the sum as the chapter's words say it, bit by bit.
func slowSum(b []byte) uint32 {
	c := uint32(0xffffffff)
	for _, x := range b {
		c ^= uint32(x)
		for range 8 {
			low := c & 1
			c /= 2
			if low == 1 {
				c ^= 0xc8df352f
			}
		}
	}
	return ^c
}

// P1.1
func TestSumIsThatOfTheWords(t *testing.T) {
	if got := Sum([]byte("123456789")); got != 0x1697d06a {
		t.Errorf("of 123456789: %x", got)
	}
	if got := Sum(nil); got != 0 {
		t.Errorf("of nothing: %x", got)
	}
	for x := range 256 {
		if b := []byte{byte(x)}; Sum(b) != slowSum(b) {
			t.Errorf("of %x: %x, not %x", b, Sum(b), slowSum(b))
		}
	}
	r := rand.New(rand.NewSource(1))
	for n := range 200 {
		b := make([]byte, n)
		r.Read(b)
		if Sum(b) != slowSum(b) {
			t.Errorf("of %x: %x, not %x", b, Sum(b), slowSum(b))
		}
	}
}

// P1.1
func TestFrameIsLengthPayloadSum(t *testing.T) {
	for _, n := range []int{0, 1, 255, 256, api.MaxFrame - 1, api.MaxFrame} {
		p := bytes.Repeat([]byte{0xa5}, n)
		got, e := Frame(p)
		want := append(Number(nil, n), p...)
		c := slowSum(want)
		want = append(want, byte(c), byte(c>>8), byte(c>>16), byte(c>>24))
		if e != api.OK || !bytes.Equal(got, want) {
			t.Errorf("frame of %d bytes: %d, another one", n, e)
		}
	}
	for _, n := range []int{api.MaxFrame + 1, 2 * api.MaxFrame} {
		if got, e := Frame(make([]byte, n)); e != api.ErrLong || len(got) != 0 {
			t.Errorf("frame of %d bytes: %d bytes, %d", n, len(got), e)
		}
	}
}

// Each put, of some bytes.
func puts() map[string]func(b []byte) []byte {
	return map[string]func(b []byte) []byte{
		"Number":  func(b []byte) []byte { return Number(b, 300) },
		"Nought":  func(b []byte) []byte { return Number(b, 0) },
		"Numbers": func(b []byte) []byte { return Numbers(b, 1, 2, 3) },
		"none":    func(b []byte) []byte { return Numbers(b) },
		"Signed":  func(b []byte) []byte { return Signed(b, -1) },
		"Text":    func(b []byte) []byte { return Text(b, "abc") },
		"Flag":    func(b []byte) []byte { return Flag(b, true) },
		"Frame":   func(b []byte) []byte { f, _ := Frame(b); return f },
	}
}

// What is handed in stays as it was, the room behind its end too, and the answer is new memory.
func TestPutsKeepTheirHandsOff(t *testing.T) {
	for name, put := range puts() {
		room := bytes.Repeat([]byte{0x77}, 64)
		b := room[:5]
		got := put(b)
		first := bytes.Clone(got)
		if !bytes.Equal(room, bytes.Repeat([]byte{0x77}, 64)) {
			t.Errorf("%s wrote behind the end of what it was handed", name)
		}
		for i := range room {
			room[i] = 0x11
		}
		if !bytes.Equal(got, first) {
			t.Errorf("%s kept what it was handed", name)
		}
		all := got[:cap(got)]
		for i := range all {
			all[i] = 0x99
		}
		if !bytes.Equal(room, bytes.Repeat([]byte{0x11}, 64)) {
			t.Errorf("%s shares its answer with what it was handed", name)
		}
	}
}

// Two answers made of the same bytes do not share the room behind them.
func TestPutsOfOneBeginningDoNotShare(t *testing.T) {
	front := Number(make([]byte, 0, 100), 7)
	a, b := Text(front, "aaa"), Text(front, "bbb")
	if string(a) != "\x01\x07\x01\x03aaa" || string(b) != "\x01\x07\x01\x03bbb" {
		t.Errorf("%x %x", a, b)
	}
}

// P1.6
func TestLesserNumbersStandAhead(t *testing.T) {
	l := numbers()
	r := rand.New(rand.NewSource(2))
	for range 300 {
		l = append(l, int(r.Uint64()>>(1+r.Intn(63))))
	}
	for _, m := range l {
		for _, n := range l {
			got := bytes.Compare(Number(nil, m), Number(nil, n))
			if m < n && got >= 0 || m == n && got != 0 || m > n && got <= 0 {
				t.Fatalf("%d and %d: %d", m, n, got)
			}
		}
	}
}
