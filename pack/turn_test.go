package pack

import (
	"bytes"
	"math"
	"math/rand"
	"slices"
	"testing"

	"tidemark/api"
)

// P6.1
func TestTurn(t *testing.T) {
	if l, row := Turn([]byte("banana")); string(l) != "nnbaaa" || row != 3 {
		t.Errorf("%q, %d", l, row)
	}
	for _, b := range append(samples(), bytes.Repeat([]byte("ab"), 500), make([]byte, 700)) {
		got, row := Turn(b)
		want, at := slowTurn(b)
		same(t, "turned", got, want)
		if row != at {
			t.Fatalf("%.50q: row %d, not %d", b, row, at)
		}
	}
}

// P6.1: turns that are alike stand in the order in which they begin: so the bytes themselves stand first.
func TestTurnsThatAreAlike(t *testing.T) {
	for _, part := range []string{"a", "ab", "ba", "aab", "cab", "\xff\x00"} {
		for _, many := range []int{1, 2, 3, 7, 100} {
			b := bytes.Repeat([]byte(part), many)
			_, row := Turn(b)
			if _, one := Turn([]byte(part)); row != one*many {
				t.Errorf("%d of %q: %d", many, part, row)
			}
		}
	}
}

// P6.1
func TestUnturn(t *testing.T) {
	if l, e := Unturn([]byte("nnbaaa"), 3); e != api.OK || string(l) != "banana" {
		t.Errorf("%q %d", l, e)
	}
	r := rand.New(rand.NewSource(3))
	for _, b := range samples() {
		if len(b) == 0 {
			continue
		}
		// Any bytes are unturned, those that no Turn tells, too.
		row := r.Intn(len(b))
		got, e := Unturn(b, row)
		if e != api.OK {
			t.Fatal(e)
		}
		same(t, "unturned", got, slowUnturn(b, row))
	}
	for n := range 4 {
		for _, row := range []int{math.MinInt, -1, n, n + 1, math.MaxInt} {
			if n == 0 && row == 0 {
				continue
			}
			l, e := Unturn(make([]byte, n), row)
			refused(t, row, l, e, api.ErrArg)
		}
	}
	if l, e := Unturn(nil, 0); e != api.OK || len(l) != 0 {
		t.Error(l, e)
	}
}

// P6.2
func TestFrontAndBack(t *testing.T) {
	same(t, "the example", Front([]byte("nnbaaa")), []byte{110, 0, 99, 99, 0, 0})
	same(t, "back", Back([]byte{110, 0, 99, 99, 0, 0}), []byte("nnbaaa"))
	same(t, "ends", Front([]byte{255, 255, 0, 255, 1}), []byte{255, 0, 1, 1, 2})
	for _, b := range append(samples(), blocks()...) {
		same(t, "front", Front(b), slowFront(b))
	}
}

// P6.7
func TestThereAndBack(t *testing.T) {
	for _, b := range append(samples(), blocks()...) {
		turned, row := Turn(b)
		got, e := Unturn(turned, row)
		if e != api.OK {
			t.Fatal(e)
		}
		same(t, "Unturn of Turn", got, b)
		same(t, "Back of Front", Back(Front(b)), b)
		same(t, "Front of Back", Front(Back(b)), b)
		got, e = Unruns(Runs(b), len(b))
		if longest(b) > 8192 {
			refused(t, "a long run", got, e, api.ErrLong)
			continue
		}
		if e != api.OK {
			t.Fatal(e)
		}
		same(t, "Unruns of Runs", got, b)
	}
}

// longest is how many noughts stand one behind the other.
func longest(b []byte) int {
	most, n := 0, 0
	for _, x := range b {
		n++
		if x != 0 {
			n = 0
		}
		most = max(most, n)
	}
	return most
}

// P6.11
func TestTurnKeepsAllBytes(t *testing.T) {
	for _, b := range append(samples(), blocks()...) {
		turned, row := Turn(b)
		if len(b) > 0 && (row < 0 || row >= len(b)) {
			t.Fatal(row)
		}
		sorted := slices.Clone(b)
		slices.Sort(sorted)
		slices.Sort(turned)
		same(t, "sorted", turned, sorted)
	}
}

// Long runs and repeats cost no more than other bytes.
func TestTurnOfLongRepeats(t *testing.T) {
	for _, b := range [][]byte{make([]byte, 300000), bytes.Repeat([]byte("abcabd"), 50000)} {
		turned, row := Turn(b)
		got, e := Unturn(turned, row)
		if e != api.OK {
			t.Fatal(e)
		}
		same(t, "back", got, b)
	}
}

// What is handed in is neither changed nor kept; what is told is new memory.
func TestMemoryOfTurns(t *testing.T) {
	room := []byte("..banana..")
	b := room[2:8]
	l, _ := Turn(b)
	m, _ := Unturn(b, 1)
	for _, out := range [][]byte{l, m, Front(b), Back(b), Pack(b)} {
		out = out[:cap(out)]
		for i := range out {
			out[i] = '!'
		}
	}
	Runs(b)
	if string(room) != "..banana.." {
		t.Errorf("%q", room)
	}
}
