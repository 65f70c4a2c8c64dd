package digest

import (
	"fmt"
	"maps"
	"math/big"
	"math/rand"
	"slices"
	"strings"

	"tidemark/api"
)

// modelTurn turns a word left, bit by bit.
func modelTurn(w uint64, by int) uint64 {
	for range by {
		w = w*2 + w/(1<<63)
	}
	return w
}

// modelMix is the chapter's words one by one: which word, how far it is turned, and which one it takes up.
func modelMix(v [4]uint64) [4]uint64 {
	const a, b, c, d = 0, 1, 2, 3
	v[a] += v[b]
	v[b] = modelTurn(v[b], 13) ^ v[a]
	v[a] = modelTurn(v[a], 32)
	v[c] += v[d]
	v[d] = modelTurn(v[d], 16) ^ v[c]
	v[a] += v[d]
	v[d] = modelTurn(v[d], 21) ^ v[a]
	v[c] += v[b]
	v[b] = modelTurn(v[b], 17) ^ v[c]
	v[c] = modelTurn(v[c], 32)
	return v
}

// modelSum pads the bytes to whole words first.
func modelSum(k api.Seed, b []byte) uint64 {
	text := "somepseudorandomlygeneratedbytes" // the four words of the chapter, as bytes
	var v [4]uint64
	for i, w := range []uint64{k.A, k.B, k.A, k.B} {
		v[i] = w ^ new(big.Int).SetBytes([]byte(text[8*i:8*i+8])).Uint64()
	}
	p := slices.Clone(b)
	for len(p)%8 != 7 {
		p = append(p, 0)
	}
	p = append(p, byte(len(b)%256))
	for i := 0; i < len(p); i += 8 {
		eight := slices.Clone(p[i : i+8])
		slices.Reverse(eight)
		w := new(big.Int).SetBytes(eight).Uint64()
		v[3] ^= w
		v = modelMix(modelMix(v))
		v[0] ^= w
	}
	v[2] ^= 255
	v = modelMix(modelMix(modelMix(modelMix(v))))
	return v[0] ^ v[1] ^ v[2] ^ v[3]
}

func modelNumber(n int) []byte {
	b := big.NewInt(int64(n)).Bytes()
	return append([]byte{byte(len(b))}, b...)
}

func modelPair(k api.Seed, key, value string) uint64 {
	b := append(modelNumber(len(key)), key...)
	return modelSum(k, append(append(b, modelNumber(len(value))...), value...))
}

// model is a map, whose parts are found by the digits' text.
type model struct {
	k api.Seed
	m map[string]string
}

func modelOf(k api.Seed, l []api.Pair) model {
	m := model{k, map[string]string{}}
	for _, p := range l {
		m.m[p.Key] = p.Value
	}
	return m
}

func pathText(path []int) string {
	s := ""
	for _, i := range path {
		s += fmt.Sprintf("%x", i)
	}
	return s
}

// part is the pairs whose place begins with some digits.
func (m model) part(path string) model {
	p := model{m.k, map[string]string{}}
	for key, v := range m.m {
		if strings.HasPrefix(fmt.Sprintf("%016x", modelSum(m.k, []byte(key))), path) {
			p.m[key] = v
		}
	}
	return p
}

// digest is that of the part by some digits, if m has just its pairs.
func (m model) digest(path string) uint64 {
	if len(m.m) == 0 {
		return 0
	}
	var b []byte
	if len(path) == 4 {
		b = modelNumber(len(m.m))
		for _, key := range slices.Sorted(maps.Keys(m.m)) {
			b = append(b, modelEight(modelPair(m.k, key, m.m[key]))...)
		}
		return modelSum(m.k, b)
	}
	for _, c := range "0123456789abcdef" {
		next := path + string(c)
		b = append(b, modelEight(m.part(next).digest(next))...)
	}
	return modelSum(m.k, b)
}

func modelEight(d uint64) []byte {
	return new(big.Int).SetUint64(d).FillBytes(make([]byte, 8))
}

func (m model) pairs() []api.Pair {
	var l []api.Pair
	for _, key := range slices.Sorted(maps.Keys(m.m)) {
		l = append(l, api.Pair{Key: key, Value: m.m[key]})
	}
	return l
}

// modelUnlike is the keys that two maps have not alike.
func modelUnlike(a, b model) []string {
	var l []string
	for key, v := range a.m {
		if w, ok := b.m[key]; !ok || v != w {
			l = append(l, key)
		}
	}
	for key := range b.m {
		if _, ok := a.m[key]; !ok {
			l = append(l, key)
		}
	}
	slices.Sort(l)
	return l
}

// modelTalk is what two sides tell one another of the part by some digits.
func modelTalk(a, b model, path string) api.Talk {
	a, b = a.part(path), b.part(path)
	if a.digest(path) == b.digest(path) {
		return api.Talk{}
	}
	if len(path) == 4 {
		return api.Talk{Pairs: len(a.m) + len(b.m)}
	}
	t := api.Talk{Digests: 16}
	for _, c := range "0123456789abcdef" {
		kid := modelTalk(a, b, path+string(c))
		t.Digests += kid.Digests
		t.Pairs += kid.Pairs
	}
	return t
}

// near is keys of which many stand in one part, some even by four digits.
func near(k api.Seed) []string {
	by := map[uint64][]string{}
	for i := range 3000 {
		key := fmt.Sprintf("k%d", i)
		by[modelSum(k, []byte(key))>>48] = append(by[modelSum(k, []byte(key))>>48], key)
	}
	var l []string
	for _, place := range slices.Sorted(maps.Keys(by)) {
		if len(by[place]) > 1 || place%100 == 0 {
			l = append(l, by[place]...)
		}
	}
	return l
}

// anyPairs is pairs of such keys, some of them twice.
func anyPairs(r *rand.Rand, keys []string, most int) []api.Pair {
	var l []api.Pair
	for range r.Intn(most + 1) {
		l = append(l, api.Pair{Key: keys[r.Intn(len(keys))], Value: fmt.Sprint(r.Intn(3))})
	}
	return l
}
