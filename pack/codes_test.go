package pack

import (
	"fmt"
	"math"
	"math/rand"
	"slices"
	"strings"
	"testing"

	"tidemark/api"
)

// fibonacci is so many weights by which codes are as long as may be.
func fibonacci(n int) []int {
	l := []int{1, 1}
	for len(l) < n {
		l = append(l, l[len(l)-1]+l[len(l)-2])
	}
	return l[:n]
}

// P6.4
func TestLengths(t *testing.T) {
	cases := []struct{ weights, want []int }{
		{nil, nil},
		{[]int{0}, []int{0}},
		{[]int{0, 0, 0}, []int{0, 0, 0}},
		{[]int{7}, []int{1}},
		{[]int{0, 7, 0}, []int{0, 1, 0}},
		{[]int{api.MaxIndex}, []int{1}},
		{[]int{1, api.MaxIndex - 1}, []int{1, 1}},
		{[]int{5, 1, 1, 2}, []int{1, 3, 3, 2}},
		{[]int{1, 1, 1}, []int{2, 2, 1}},
		{[]int{1, 1, 2}, []int{2, 2, 1}},
		{[]int{2, 1, 1}, []int{1, 2, 2}},
		{[]int{1, 1, 1, 1, 1}, []int{3, 3, 2, 2, 2}},
		{[]int{1, 1, 2, 2, 0, 4}, []int{3, 3, 2, 2, 0, 2}},
	}
	for _, c := range cases {
		got, e := Lengths(c.weights)
		if e != api.OK || !slices.Equal(got, c.want) {
			t.Errorf("%v: %v %d, not %v", c.weights, got, e, c.want)
		}
	}
	if got, e := Lengths(fibonacci(32)); e != api.OK || slices.Max(got) != 31 {
		t.Error(got, e)
	}
}

// P6.4: of knots of one weight the first of several goes, those that are made stand behind all.
func TestLengthsAreThoseOfTheList(t *testing.T) {
	r := rand.New(rand.NewSource(5))
	for range 4000 {
		weights := make([]int, r.Intn(40))
		most := []int{2, 3, 5, 100, 100000}[r.Intn(5)]
		for i := range weights {
			weights[i] = r.Intn(most)
		}
		was := slices.Clone(weights)
		got, e := Lengths(weights)
		if e != api.OK || !slices.Equal(got, slowLengths(weights)) {
			t.Fatalf("%v: %v, not %v", weights, got, slowLengths(weights))
		}
		if !slices.Equal(weights, was) {
			t.Fatal("changed")
		}
	}
}

// P6.4
func TestLengthsRefuses(t *testing.T) {
	for _, l := range [][]int{{-1}, {5, -1}, {math.MinInt, 1}, {api.MaxIndex + 1}, {api.MaxIndex, 1}, {api.MaxIndex, api.MaxIndex}, {math.MaxInt, math.MaxInt, 2}, {1, math.MaxInt}, append(fibonacci(40), -1)} {
		got, e := Lengths(l)
		refused(t, l, got, e, api.ErrRange)
	}
	for _, n := range []int{33, 34, 50} {
		got, e := Lengths(fibonacci(n))
		refused(t, n, got, e, api.ErrLong)
	}
	if _, e := Lengths(slices.Repeat([]int{0}, 1000)); e != api.OK {
		t.Error(e)
	}
}

// P6.4
func TestCodes(t *testing.T) {
	cases := []struct{ lengths, want []int }{
		{nil, nil},
		{[]int{0, 0}, []int{0, 0}},
		{[]int{1}, []int{0}},
		{[]int{1, 3, 3, 2}, []int{0, 6, 7, 2}},
		{[]int{1, 1}, []int{0, 1}},
		{[]int{0, 1, 0, 1}, []int{0, 0, 0, 1}},
		{[]int{3}, []int{0}},
		{[]int{4, 2}, []int{4, 0}},
		{[]int{31}, []int{0}},
		{[]int{31, 1}, []int{1 << 30, 0}},
		{[]int{2, 2, 2, 2, 0}, []int{0, 1, 2, 3, 0}},
	}
	for _, c := range cases {
		was := slices.Clone(c.lengths)
		got, e := Codes(c.lengths)
		if e != api.OK || !slices.Equal(got, c.want) || !slices.Equal(c.lengths, was) {
			t.Errorf("%v: %v %d, not %v", c.lengths, got, e, c.want)
		}
	}
	long := []int{31}
	for n := 31; n > 0; n-- {
		long = append(long, n)
	}
	got, e := Codes(long)
	if e != api.OK || got[0] != 1<<31-2 || got[1] != 1<<31-1 || got[31] != 0 {
		t.Error(got, e)
	}
}

// P6.4
func TestCodesRefuses(t *testing.T) {
	cases := []struct {
		lengths []int
		want    api.Errno
	}{
		{[]int{-1}, api.ErrRange},
		{[]int{32}, api.ErrRange},
		{[]int{math.MinInt, 1}, api.ErrRange},
		{[]int{1, 1, math.MaxInt}, api.ErrRange},
		{[]int{1, 1, 1}, api.ErrPack},
		{[]int{1, 1, 2}, api.ErrPack},
		{[]int{1, 1, 31}, api.ErrPack},
		{[]int{2, 2, 2, 2, 2}, api.ErrPack},
		{[]int{2, 2, 2, 3, 3, 3}, api.ErrPack},
		{[]int{3, 1, 2, 2}, api.ErrPack},
		{append(append([]int{31, 31, 31}, 1), 2, 3, 4, 5, 6, 7, 8, 9, 10, 11, 12, 13, 14, 15, 16, 17, 18, 19, 20, 21, 22, 23, 24, 25, 26, 27, 28, 29, 30), api.ErrPack},
		// Whichever is met first, going through all places for each length.
		{[]int{1, 1, 1, 32}, api.ErrPack},
		{[]int{1, 0, 1, 5, 1, -1}, api.ErrPack},
		{[]int{1, 1, 32, 1}, api.ErrRange},
		{[]int{32, 1, 1, 1}, api.ErrRange},
		{[]int{2, 2, 2, 2, 2, 32}, api.ErrRange},
		{[]int{1, 1, 2, 2, 2, -1}, api.ErrRange},
	}
	for _, c := range cases {
		got, e := Codes(c.lengths)
		refused(t, c.lengths, got, e, c.want)
	}
}

// P6.9
func TestNoCodeBeginsAnother(t *testing.T) {
	r := rand.New(rand.NewSource(6))
	n := 0
	for range 5000 {
		lengths := make([]int, r.Intn(12))
		for i := range lengths {
			lengths[i] = r.Intn(8)
		}
		codes, e := Codes(lengths)
		if kraft(lengths) > 1<<31 {
			refused(t, lengths, codes, e, api.ErrPack)
			continue
		}
		if e != api.OK {
			t.Fatal(lengths, e)
		}
		n++
		apart(t, lengths, codes)
	}
	if n < 1000 {
		t.Error("too few", n)
	}
}

// kraft is how many of all codes of 31 bits some lengths use up.
func kraft(lengths []int) int {
	all := 0
	for _, n := range lengths {
		if n > 0 {
			all += 1 << (31 - n)
		}
	}
	return all
}

func apart(t *testing.T, lengths, codes []int) {
	t.Helper()
	var l []string
	for i, n := range lengths {
		if n > 0 {
			l = append(l, fmt.Sprintf("%0*b", n, codes[i]))
		} else if codes[i] != 0 {
			t.Fatal("a code of no bits")
		}
	}
	if !slices.Equal(l, slices.DeleteFunc(slowCodes(lengths), func(s string) bool { return s == "" })) {
		t.Fatal(lengths, l)
	}
	for i, a := range l {
		for j, b := range l {
			if i != j && strings.HasPrefix(b, a) {
				t.Fatalf("%s begins %s", a, b)
			}
		}
	}
}

// P6.9
func TestLengthsUseUpAllCodes(t *testing.T) {
	r := rand.New(rand.NewSource(7))
	for range 2000 {
		weights := make([]int, 2+r.Intn(100))
		for i := range weights {
			weights[i] = r.Intn(1000)
		}
		weights[0], weights[1] = 1, 1
		lengths, e := Lengths(weights)
		if e != api.OK || kraft(lengths) != 1<<31 {
			t.Fatal(weights, lengths)
		}
		codes, e := Codes(lengths)
		if e != api.OK {
			t.Fatal(e)
		}
		apart(t, lengths, codes)
	}
}

// P6.10: held against all lengths whose codes could be told apart.
func TestLengthsAreBest(t *testing.T) {
	r := rand.New(rand.NewSource(8))
	for range 300 {
		weights := make([]int, 2+r.Intn(5))
		for i := range weights {
			weights[i] = 1 + r.Intn(12)
		}
		lengths, _ := Lengths(weights)
		got := 0
		for i, n := range lengths {
			got += n * weights[i]
		}
		if want := fewest(weights, 1<<31); got != want {
			t.Fatalf("%v: %d bits, not %d", weights, got, want)
		}
	}
}

// fewest is how few bits the weights need, if so many of all codes are left.
func fewest(weights []int, left int) int {
	if len(weights) == 0 {
		return 0
	}
	best := math.MaxInt / 2
	for n := 1; n < 8; n++ {
		if used := 1 << (31 - n); used <= left {
			best = min(best, n*weights[0]+fewest(weights[1:], left-used))
		}
	}
	return best
}
