package kv

import (
	"maps"
	"math/rand"
	"slices"

	"tidemark/api"
)

// model is a map as Go has one.
type model map[string]string

// modelPlain tells whether a text is least to most runes of a key or of a value.
func modelPlain(s string, least, most int) bool {
	l := []rune(s)
	return len(l) >= least && len(l) <= most && !slices.ContainsFunc(l, func(r rune) bool { return r < 32 || r == 127 || r == 0xFFFD })
}

func modelOps(l []api.Op) api.Errno {
	seen := map[string]bool{}
	for _, o := range l {
		if !modelPlain(o.Key, 1, 24) {
			return 20
		}
		if o.Has && !modelPlain(o.Value, 0, 48) || !o.Has && o.Value != "" {
			return 21
		}
		if seen[o.Key] {
			return 61
		}
		seen[o.Key] = true
	}
	return 0
}

func modelCheck(conds, ops []api.Op) api.Errno {
	if len(ops) < 1 || len(ops) > 6 || len(conds) > 6 {
		return 61
	}
	if e := modelOps(conds); e != 0 {
		return e
	}
	return modelOps(ops)
}

// do is what operations change, and the map behind them.
func (m model) do(pos int, conds, ops []api.Op) (model, []api.Event, api.Errno) {
	if e := modelCheck(conds, ops); e != 0 {
		return m, nil, e
	}
	for _, c := range conds {
		if v, ok := m[c.Key]; ok != c.Has || ok && v != c.Value {
			return m, nil, 60
		}
	}
	next := maps.Clone(m)
	var l []api.Event
	for _, o := range ops {
		old, had := m[o.Key]
		if o.Has {
			next[o.Key] = o.Value
		} else {
			delete(next, o.Key)
		}
		if now, has := next[o.Key]; now != old || has != had {
			l = append(l, api.Event{Pos: pos, Key: o.Key, Had: had, Old: old, Has: has, Now: now})
		}
	}
	if len(next) > 24 {
		return m, nil, 7
	}
	return next, l, 0
}

func (m model) take(l []api.Event) model {
	next := maps.Clone(m)
	for _, e := range l {
		delete(next, e.Key)
		if e.Has {
			next[e.Key] = e.Now
		}
	}
	return next
}

func (m model) set(l []api.Op) (model, api.Errno) {
	if len(l) > 24 {
		return m, 7
	}
	if e := modelOps(l); e != 0 {
		return m, e
	}
	next := model{}
	for _, o := range l {
		if !o.Has {
			return m, 61
		}
		next[o.Key] = o.Value
	}
	return next, 0
}

func (m model) scan(from, to string) []api.Op {
	var l []api.Op
	for _, k := range slices.Sorted(maps.Keys(m)) {
		if k >= from && (k < to || to == "") {
			l = append(l, api.Op{Key: k, Has: true, Value: m[k]})
		}
	}
	return l
}

func one(r *rand.Rand, l ...string) string { return l[r.Intn(len(l))] }

func anyKey(r *rand.Rand) string {
	if r.Intn(60) == 0 {
		return one(r, "", "\n", "\xff", "abcdefghijklmnopqrstuvwxy")
	}
	return one(r, "a", "b", "é", "z") + one(r, "", "1", "2", "3", "4", "5", "6", "7")
}

func anyOp(r *rand.Rand) api.Op {
	o := api.Op{Key: anyKey(r), Has: r.Intn(4) > 0}
	if o.Has || r.Intn(60) == 0 {
		o.Value = one(r, "", "1", "2", "n:1 m:2")
	}
	if r.Intn(100) == 0 {
		o.Value = "\x7f"
	}
	return o
}

func anyOps(r *rand.Rand, most int) []api.Op {
	var l []api.Op
	for range r.Intn(most + 1) {
		l = append(l, anyOp(r))
	}
	return l
}

// fitting is some conditions that hold of a map.
func (m model) fitting(r *rand.Rand) []api.Op {
	var l []api.Op
	for range r.Intn(3) {
		k := anyKey(r)
		v, ok := m[k]
		l = append(l, api.Op{Key: k, Has: ok, Value: v})
	}
	return l
}
