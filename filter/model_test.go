package filter

import (
	"bytes"
	"math/rand"
	"reflect"
	"strings"

	"tidemark/api"
)

// part is a filter's part, and how many others it stands below.
type part struct {
	api.Filter
	deep int
}

// modelParts is a filter's parts in order, at most most of them; none of them stands below more than seven others.
func modelParts(f api.Filter, most int) []part {
	todo := []part{{f, 0}}
	var l []part
	for len(todo) > 0 && len(l) < most {
		p := todo[0]
		l = append(l, p)
		var kids []part
		if p.deep < 7 {
			for i := 0; i < len(p.Kids) && i < most; i++ {
				kids = append(kids, part{p.Kids[i], p.deep + 1})
			}
		}
		todo = append(kids, todo[1:]...)
	}
	return l
}

// modelText tells whether a text is least to most runes of a key or of a value.
func modelText(s string, least, most int) bool {
	n := 0
	for _, r := range s {
		if r < 32 || r == 127 || r == 0xFFFD {
			return false
		}
		n++
	}
	return n >= least && n <= most
}

func modelName(s string) bool {
	return len(s) >= 1 && len(s) <= 8 && strings.Trim(s, "abcdefghijklmnopqrstuvwxyz") == ""
}

func modelMay(f api.Filter) bool {
	name, text, kids := f.Name == "", f.Text == "", len(f.Kids)
	switch f.Kind {
	case 0, 3:
		return name && text && kids == 0
	case 1:
		return name && kids == 0 && modelText(f.Text, 1, 24)
	case 2:
		return kids == 0 && modelName(f.Name) && modelText(f.Text, 0, 48)
	case 4:
		return name && text && kids == 1
	}
	return (f.Kind == 5 || f.Kind == 6) && name && text
}

func modelCheck(f api.Filter) api.Errno {
	for i, p := range modelParts(f, 30) {
		if p.deep >= 6 || i >= 24 {
			return 51
		}
		if !modelMay(p.Filter) {
			return 50
		}
	}
	return 0
}

// modelHolds counts the kids that hold.
func modelHolds(f api.Filter, e api.Event) bool {
	n := 0
	for _, k := range f.Kids {
		if modelHolds(k, e) {
			n++
		}
	}
	switch f.Kind {
	case 1:
		return len(e.Key) >= len(f.Text) && e.Key[:len(f.Text)] == f.Text
	case 2:
		for _, p := range strings.Split(e.Now, " ") {
			if i := strings.Index(p, ":"); i >= 0 && p[:i] == f.Name {
				return e.Has && p[i+1:] == f.Text
			}
		}
		return false
	case 3:
		return e.Has
	case 4:
		return n == 0
	case 5:
		return n == len(f.Kids)
	case 6:
		return n > 0
	}
	return true
}

func modelNumber(n int) []byte {
	var b []byte
	for ; n > 0; n /= 256 {
		b = append([]byte{byte(n)}, b...)
	}
	return append([]byte{byte(len(b))}, b...)
}

func modelPut(f api.Filter) []byte {
	b := modelNumber(f.Kind)
	for _, s := range []string{f.Name, f.Text} {
		b = append(append(b, modelNumber(len(s))...), s...)
	}
	b = append(b, modelNumber(len(f.Kids))...)
	for _, k := range f.Kids {
		b = append(b, modelPut(k)...)
	}
	return b
}

func alike(a, b api.Filter) bool { return reflect.DeepEqual(a, b) }

func clone(f api.Filter) api.Filter {
	var kids []api.Filter
	for _, k := range f.Kids {
		kids = append(kids, clone(k))
	}
	f.Kids = kids
	return f
}

func one(r *rand.Rand, l ...string) string { return l[r.Intn(len(l))] }

// anyFilter is mostly one that may be; wild tells how often a part is spoilt.
func anyFilter(r *rand.Rand, deep int, wild float64) api.Filter {
	f := api.Filter{Kind: r.Intn(7)}
	switch {
	case deep == 0 && f.Kind > 3:
		f.Kind = r.Intn(4)
	case deep > 3:
		f.Kind = 4 + r.Intn(3)
	}
	kids := 0
	switch f.Kind {
	case api.FPrefix:
		f.Text = one(r, "a", "b", "ab", "é", "c ", "abc")
	case api.FEqual:
		f.Name, f.Text = one(r, "n", "m", "abcdefgh"), one(r, "", "1", "2", "é", "x:y")
	case api.FNot:
		kids = 1
	case api.FAnd, api.FOr:
		kids = r.Intn(4)
	}
	for range kids {
		f.Kids = append(f.Kids, anyFilter(r, deep-1, wild))
	}
	if r.Float64() < wild {
		spoil(r, &f)
	}
	return f
}

func spoil(r *rand.Rand, f *api.Filter) {
	switch r.Intn(5) {
	case 0:
		f.Kind = []int{-1, 7, 8, 1 << 40, -1 << 62}[r.Intn(5)]
	case 1:
		f.Name = one(r, "", "x", "A", "abcdefghi", "n1", "\xff")
	case 2:
		f.Text = one(r, "", "x", "\n", "\xff", strings.Repeat("é", 25), strings.Repeat("x", 49))
	case 3:
		f.Kids = append(f.Kids, api.Filter{})
	case 4:
		f.Kids = nil
	}
}

func anyEvent(r *rand.Rand) api.Event {
	return api.Event{
		Pos: r.Intn(9), Key: one(r, "", "a", "ab", "abc", "b", "é", "éa", "c ", "c", "\xc3"),
		Had: r.Intn(2) == 0, Old: one(r, "", "n:1"), Has: r.Intn(3) > 0,
		Now: one(r, "", "n:1", "n:2 m:1", "m:1 n:1", "n:2 n:1", "n:", "abcdefgh:é", "m:x:y", "n", "nn:1", " n:1"),
	}
}

func anyEvents(r *rand.Rand) []api.Event {
	var l []api.Event
	for range r.Intn(12) {
		l = append(l, anyEvent(r))
	}
	return l
}

// spoiled is bytes of which some are other ones, or that are cut off, or have something behind them.
func spoiled(r *rand.Rand, b []byte) []byte {
	b = bytes.Clone(b)
	switch r.Intn(5) {
	case 0:
		return b[:r.Intn(len(b)+1)]
	case 1:
		return append(b, byte(r.Intn(3)))
	case 2:
		i := r.Intn(len(b) + 1)
		return append(b[:i:i], append([]byte{byte(r.Intn(9))}, b[i:]...)...)
	}
	if len(b) > 0 {
		b[r.Intn(len(b))] = byte(r.Intn(10))
	}
	return b
}
