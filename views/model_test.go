package views

import (
	"fmt"
	"maps"
	"math/big"
	"math/rand"
	"reflect"
	"regexp"
	"slices"
	"strings"

	"tidemark/api"
)

var (
	modelName   = regexp.MustCompile(`^[a-z]{1,8}$`)
	modelNumber = regexp.MustCompile(`^(0|-?[1-9][0-9]{0,18})$`)
)

func modelCheck(w api.View) api.Errno {
	of := w.Of == ""
	if w.Kind == 3 {
		of = modelName.MatchString(w.Of)
	}
	if !modelName.MatchString(w.Name) || !modelName.MatchString(w.Field) || !of {
		return 22
	}
	if w.Kind != 1 && w.Kind != 2 && w.Kind != 3 {
		return 1
	}
	return 0
}

func modelField(value, name string) (string, bool) {
	for _, p := range strings.Split(value, " ") {
		if i := strings.Index(p, ":"); i >= 0 && p[:i] == name {
			return p[i+1:], true
		}
	}
	return "", false
}

func modelFits(n *big.Int) bool { return n.IsInt64() }

// modelOf tells a view of a map anew.
func modelOf(w api.View, m map[string]string) ([]api.Row, api.Errno) {
	if e := modelCheck(w); e != 0 {
		return nil, e
	}
	by := map[string][]string{}
	for _, key := range slices.Sorted(maps.Keys(m)) {
		if s, ok := modelField(m[key], w.Field); ok {
			by[s] = append(by[s], key)
		}
	}
	var l []api.Row
	for _, s := range slices.Sorted(maps.Keys(by)) {
		row, sum := api.Row{Text: s, N: int64(len(by[s]))}, new(big.Int)
		for _, key := range by[s] {
			n, ok := new(big.Int), false
			if of, has := modelField(m[key], w.Of); has && modelNumber.MatchString(of) {
				n, ok = n.SetString(of, 10)
			}
			if ok && modelFits(n) {
				sum.Add(sum, n)
			}
		}
		switch w.Kind {
		case 1:
			row.Keys = by[s]
		case 3:
			if !modelFits(sum) {
				return nil, 72
			}
			row.N = sum.Int64()
		}
		l = append(l, row)
	}
	return l, 0
}

func alike(a, b []api.Row) bool {
	return len(a) == 0 && len(b) == 0 || reflect.DeepEqual(a, b)
}

func one(r *rand.Rand, l ...string) string { return l[r.Intn(len(l))] }

// anyValue is some fields; many of its numbers are so great that a few make a sum too great.
func anyValue(r *rand.Rand) string {
	n := one(r, "1", "-2", "0", "9223372036854775807", "-9223372036854775808", "4611686018427387904", "-4611686018427387904", "9223372036854775806", "07", "x", "", "9223372036854775808", "-0")
	parts := []string{"n:" + n, "m:" + one(r, "1", "9223372036854775807", "-9223372036854775807"), "a:" + one(r, "x", "y", "", "é", "x:y"), "b:" + one(r, "x", "1"), "a", ":"}
	r.Shuffle(len(parts), func(i, j int) { parts[i], parts[j] = parts[j], parts[i] })
	return strings.Join(parts[:r.Intn(len(parts)+1)], " ")
}

// anyEvents is what some changes of a map would tell, one behind the other, and the map behind them.
func anyEvents(r *rand.Rand, m map[string]string, most int) ([]api.Event, map[string]string) {
	next := maps.Clone(m)
	var l []api.Event
	for range r.Intn(most + 1) {
		e := api.Event{Pos: r.Intn(5), Key: fmt.Sprint("k", r.Intn(12)), Has: r.Intn(3) > 0}
		e.Old, e.Had = next[e.Key]
		delete(next, e.Key)
		if e.Has {
			e.Now = anyValue(r)
			next[e.Key] = e.Now
		}
		l = append(l, e)
	}
	return l, next
}

// ops is all that a map has, in any order.
func ops(m map[string]string) []api.Op {
	var l []api.Op
	for key, v := range m {
		l = append(l, api.Op{Key: key, Has: true, Value: v})
	}
	return l
}

func anyView(r *rand.Rand) api.View {
	w := api.View{Name: one(r, "p", "q", "r", "s", "t"), Kind: 1 + r.Intn(3), Field: one(r, "a", "b", "n")}
	if w.Kind == api.VSum {
		w.Of = one(r, "n", "m", "a")
	}
	switch r.Intn(20) {
	case 0:
		w.Name = one(r, "", "A", "abcdefghi")
	case 1:
		w.Kind = []int{0, 4, -1, 1 << 40}[r.Intn(4)]
	case 2:
		w.Of = one(r, "", "n", "N")
	}
	return w
}
