package pack

import (
	"bytes"
	"fmt"
	"math/rand"
	"slices"
	"sort"
	"strings"
	"testing"

	"tidemark/api"
	"tidemark/wire"
)

// The plain ways of the chapter, step by step as it tells them.

func slowTurn(b []byte) ([]byte, int) {
	var l [][]byte
	for i := range b {
		l = append(l, slices.Concat(b[i:], b[:i], []byte{byte(i >> 16), byte(i >> 8), byte(i)}))
	}
	// The place stands behind each turn, so that those that are alike come by it.
	slices.SortFunc(l, bytes.Compare)
	var out []byte
	row := 0
	for k, turn := range l {
		out = append(out, turn[len(b)-1])
		if bytes.Equal(turn[len(b):], []byte{0, 0, 0}) {
			row = k
		}
	}
	return out, row
}

func slowUnturn(b []byte, row int) []byte {
	var out []byte
	for range b {
		x := b[row]
		out = append([]byte{x}, out...)
		next := bytes.Count(b[:row], []byte{x})
		for _, y := range b {
			if y < x {
				next++
			}
		}
		row = next
	}
	return out
}

func slowFront(b []byte) []byte {
	var list, out []byte
	for i := range 256 {
		list = append(list, byte(i))
	}
	for _, x := range b {
		at := bytes.IndexByte(list, x)
		list = slices.Concat([]byte{x}, list[:at], list[at+1:])
		out = append(out, byte(at))
	}
	return out
}

func slowRuns(b []byte) []int {
	var l []int
	for i := 0; i < len(b); {
		n := 0
		for i+n < len(b) && b[i+n] == 0 {
			n++
		}
		if n == 0 {
			l = append(l, int(b[i])+1)
			i++
			continue
		}
		i += n
		for n > 0 {
			if n%2 == 1 {
				l, n = append(l, 0), (n-1)/2
			} else {
				l, n = append(l, 1), (n-2)/2
			}
		}
	}
	return append(l, 257)
}

// slowLengths takes knots out of a list and puts others behind it.
func slowLengths(weights []int) []int {
	type knot struct {
		weight int
		places []int
	}
	out := make([]int, len(weights))
	var l []knot
	for i, w := range weights {
		if w > 0 {
			l = append(l, knot{w, []int{i}})
		}
	}
	if len(l) == 1 {
		out[l[0].places[0]] = 1
	}
	take := func() knot {
		least := 0
		for k := range l {
			if l[k].weight < l[least].weight {
				least = k
			}
		}
		k := l[least]
		l = slices.Delete(l, least, least+1)
		return k
	}
	for len(l) > 1 {
		a, b := take(), take()
		both := knot{a.weight + b.weight, slices.Concat(a.places, b.places)}
		for _, i := range both.places {
			out[i]++
		}
		l = append(l, both)
	}
	return out
}

// slowCodes is each place's code as digits 0 and 1.
func slowCodes(lengths []int) []string {
	out := make([]string, len(lengths))
	order := []int{}
	for i, n := range lengths {
		if n > 0 {
			order = append(order, i)
		}
	}
	sort.SliceStable(order, func(a, b int) bool { return lengths[order[a]] < lengths[order[b]] })
	code, long := 0, 0
	for _, i := range order {
		for ; long < lengths[i]; long++ {
			code *= 2
		}
		out[i] = fmt.Sprintf("%0*b", long, code)
		code++
	}
	return out
}

// slowBits is what is packed of a block, as digits 0 and 1 up to a whole byte.
func slowBits(block []byte) string {
	turned, row := slowTurn(block)
	l := slowRuns(slowFront(turned))
	weights := make([]int, 258)
	for _, s := range l {
		weights[s]++
	}
	lengths := slowLengths(weights)
	codes := slowCodes(lengths)
	groups, flags, longs, said := "", "", "", ""
	for first := 0; first < 258; first += 16 {
		group := lengths[first:min(first+16, 258)]
		if slices.Max(group) == 0 {
			groups += "0"
			continue
		}
		groups += "1"
		for _, n := range group {
			if n == 0 {
				flags += "0"
				continue
			}
			flags += "1"
			longs += fmt.Sprintf("%05b", n)
		}
	}
	for _, s := range l {
		said += codes[s]
	}
	bits := fmt.Sprintf("%012b", row) + groups + flags + longs + said
	return bits + strings.Repeat("0", (8-len(bits)%8)%8)
}

func slowPack(b []byte) []byte {
	out := wire.Number(nil, len(b))
	for len(b) > 0 {
		block := b[:min(len(b), 4096)]
		b = b[len(block):]
		p := bitsOf(slowBits(block))
		kind := 1
		if len(p) >= len(block) {
			kind, p = 0, block
		}
		out = wire.Text(wire.Number(out, kind), string(p))
	}
	return out
}

// bitsOf is digits 0 and 1 as bytes.
func bitsOf(s string) []byte {
	var out []byte
	for ; len(s) > 0; s = s[8:] {
		x := byte(0)
		for _, c := range s[:8] {
			x = 2*x + byte(c-'0')
		}
		out = append(out, x)
	}
	return out
}

// noise is random bytes, of so many kinds.
func noise(r *rand.Rand, n, kinds int) []byte {
	b := make([]byte, n)
	for i := range b {
		b[i] = byte(r.Intn(kinds))
	}
	return b
}

// samples are bytes of many kinds and lengths.
func samples() [][]byte {
	r := rand.New(rand.NewSource(1))
	l := [][]byte{nil, {0}, {255}, {0, 0}, {1, 0}, {0, 1}, []byte("banana"), []byte("abracadabra"), []byte("aaaaaaaa"), []byte("abababab"), []byte("abcabcabcabc")}
	var all []byte
	for i := range 256 {
		all = append(all, byte(i))
	}
	back := slices.Clone(all)
	slices.Reverse(back)
	l = append(l, all, back, bytes.Repeat(all, 3))
	for _, n := range []int{2, 3, 5, 8, 15, 16, 17, 31, 64, 100, 255, 256, 257, 300, 600} {
		for _, kinds := range []int{1, 2, 3, 20, 256} {
			l = append(l, noise(r, n, kinds))
		}
		l = append(l, bytes.Repeat(noise(r, 1+n/4, 3), 4))
	}
	return l
}

// blocks are samples about as long as blocks are.
func blocks() [][]byte {
	r := rand.New(rand.NewSource(2))
	words := []string{"one ", "two ", "three ", "n:5 ", "g:x ", "\x00\x01\x02"}
	var text []byte
	for len(text) < 9000 {
		text = append(text, words[r.Intn(len(words))]...)
	}
	var l [][]byte
	for _, n := range []int{4095, 4096, 4097, 8191, 8192, 8193} {
		l = append(l, text[:n], make([]byte, n), noise(r, n, 256), noise(r, n, 7), bytes.Repeat([]byte{7}, n))
	}
	return append(l, slices.Concat(noise(r, 4096, 256), text[:4096], noise(r, 50, 256)))
}

func same(t *testing.T, what string, got, want []byte) {
	t.Helper()
	if !bytes.Equal(got, want) {
		t.Fatalf("%s: %.100x of %d, not %.100x of %d", what, got, len(got), want, len(want))
	}
}

// refused holds that a call answered an error, and nothing.
func refused[T any](t *testing.T, what any, l []T, e, want api.Errno) {
	t.Helper()
	if e != want || len(l) != 0 {
		t.Errorf("%.100v: %d, not %d; %d answers", what, e, want, len(l))
	}
}
