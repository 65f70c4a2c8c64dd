package pack

import (
	"bytes"
	"math"
	"math/rand"
	"slices"
	"testing"

	"tidemark/api"
)

// P6.3
func TestRuns(t *testing.T) {
	cases := []struct {
		b    []byte
		want []int
	}{
		{nil, []int{257}},
		{[]byte{0, 0, 5, 0}, []int{1, 6, 0, 257}},
		{[]byte{0}, []int{0, 257}},
		{make([]byte, 3), []int{0, 0, 257}},
		{make([]byte, 4), []int{1, 0, 257}},
		{make([]byte, 5), []int{0, 1, 257}},
		{make([]byte, 6), []int{1, 1, 257}},
		{make([]byte, 7), []int{0, 0, 0, 257}},
		{[]byte{1, 255, 0, 254}, []int{2, 256, 0, 255, 257}},
	}
	for _, c := range cases {
		if got := Runs(c.b); !slices.Equal(got, c.want) {
			t.Errorf("%v: %v, not %v", c.b, got, c.want)
		}
	}
	for _, b := range append(samples(), blocks()...) {
		if got := Runs(b); !slices.Equal(got, slowRuns(b)) {
			t.Fatalf("%.50x: %.50v", b, got)
		}
	}
}

// P6.3: each number of noughts is told by just one row of digits.
func TestEachRun(t *testing.T) {
	for n := range 9000 {
		l := Runs(make([]byte, n))
		got, e := Unruns(l, math.MaxInt)
		if n > 8192 {
			refused(t, n, got, e, api.ErrLong)
			continue
		}
		if e != api.OK || len(got) != n || len(bytes.Trim(got, "\x00")) != 0 {
			t.Fatal(n, e, len(got))
		}
		got, e = Unruns(l, n-1)
		if n > 0 {
			refused(t, n, got, e, api.ErrLong)
		} else if e != api.OK {
			t.Error(e)
		}
	}
}

// P6.3
func TestUnrunsRefuses(t *testing.T) {
	long := func(n int) []int { return slices.Repeat([]int{0}, n) }
	cases := []struct {
		l    []int
		most int
		want api.Errno
	}{
		{nil, 9, api.ErrPack},
		{[]int{}, 0, api.ErrPack},
		{[]int{257}, 0, api.OK},
		{[]int{257}, math.MinInt, api.OK},
		{[]int{2}, 9, api.ErrPack},
		{[]int{0}, 9, api.ErrPack},
		{[]int{-1, 257}, 9, api.ErrPack},
		{[]int{258, 257}, 9, api.ErrPack},
		{[]int{math.MaxInt, 257}, 9, api.ErrPack},
		{[]int{math.MinInt, 257}, 9, api.ErrPack},
		{[]int{257, 257}, 9, api.ErrPack},
		{[]int{2, 257, 3, 257}, 9, api.ErrPack},
		{[]int{2, 3, 258}, 9, api.ErrPack},
		{[]int{2, 3}, 9, api.ErrPack},
		{[]int{2, 3, 257}, 1, api.ErrLong},
		{[]int{2, 3, 257}, 2, api.OK},
		{[]int{2, 257}, -5, api.ErrLong},
		{[]int{0, 257}, -5, api.ErrLong},
		{[]int{1, 257}, 1, api.ErrLong},
		{[]int{1, 257}, 2, api.OK},
		{[]int{1, 2, 257}, 2, api.ErrLong},
		{[]int{1, 2, 257}, 3, api.OK},
		{append(long(13), 257), 8191, api.OK},
		{append(long(13), 257), 8190, api.ErrLong},
		{append(long(14), 257), 1 << 20, api.ErrLong},
		{append(long(100), 257), math.MaxInt, api.ErrLong},
		{append(slices.Repeat([]int{1}, 12), 0, 257), 1 << 20, api.ErrLong},
		{append(append([]int{1}, long(12)...), 257), 1 << 20, api.OK},         // 2 + 2*4095 = 8192
		{append(append([]int{0, 1}, long(11)...), 257), 1 << 20, api.ErrLong}, // 1 + 4 + 4*2047 = 8193
		// The first error counts, sign by sign: a run that is too long, ahead of a sign that can't be.
		{append(long(14), 999), 9, api.ErrLong},
		{[]int{2, 3, 999, 257}, 1, api.ErrLong},
		{[]int{2, 999, 3, 257}, 1, api.ErrPack},
		{[]int{0, 0, 0, 999}, 1, api.ErrPack},
		{[]int{0, 0, 0, 2, 999}, 1, api.ErrLong},
		{[]int{0, 0, 0, 257, 257}, 1, api.ErrPack},
		{append(long(12), 2), 1, api.ErrPack},
	}
	for i, c := range cases {
		was := slices.Clone(c.l)
		got, e := Unruns(c.l, c.most)
		if e != c.want || e != api.OK && len(got) != 0 || !slices.Equal(c.l, was) {
			t.Errorf("%d: %d, not %d", i, e, c.want)
		}
	}
	two := append(append(append(long(13), 2), long(13)...), 257)
	if got, e := Unruns(two, 2*8191+1); e != api.OK || len(got) != 2*8191+1 || got[8191] != 1 {
		t.Error("two runs", e)
	}
}

// P6.3, P6.7: what is read, put again, is the signs that were read: each has one form.
func TestRunsOfUnruns(t *testing.T) {
	r := rand.New(rand.NewSource(4))
	for range 3000 {
		var l []int
		for range r.Intn(12) {
			if r.Intn(3) > 0 {
				l = append(l, r.Intn(2))
			} else {
				l = append(l, r.Intn(257))
			}
		}
		l = append(l, 257)
		b, e := Unruns(l, 1<<20)
		if e != api.OK {
			t.Fatal(l, e)
		}
		if !slices.Equal(Runs(b), l) {
			t.Fatal(l, Runs(b))
		}
	}
}
