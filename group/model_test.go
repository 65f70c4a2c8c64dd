package group

import (
	"bytes"
	"reflect"
	"slices"

	"tidemark/api"
)

// modelShare shares as the document's words go, one part and one member at a time.
func modelShare(owners, members []int) []int {
	next := make([]int, len(owners))
	var team []int
	for _, m := range members {
		if m > 0 && !slices.Contains(team, m) {
			team = append(team, m)
		}
	}
	if len(team) == 0 {
		return next
	}
	slices.Sort(team)
	many := func(l []int, m int) int {
		n := 0
		for _, o := range l {
			if o == m {
				n++
			}
		}
		return n
	}
	may := map[int]int{}
	for _, m := range team {
		may[m] = len(owners) / len(team)
	}
	left := slices.Clone(team)
	for range len(owners) % len(team) {
		best := left[0]
		for _, m := range left {
			if many(owners, m) > many(owners, best) {
				best = m
			}
		}
		may[best]++
		left = slices.DeleteFunc(left, func(m int) bool { return m == best })
	}
	for i, o := range owners {
		if slices.Contains(team, o) && many(next, o) < may[o] {
			next[i] = o
		}
	}
	for i := range next {
		for _, m := range team {
			if next[i] == 0 && many(next, m) < may[m] {
				next[i] = m
			}
		}
	}
	return next
}

// model is groups as plain values.
type model []api.Group

func (m model) at(name string) int {
	return slices.IndexFunc(m, func(x api.Group) bool { return x.Name == name })
}

func modelName(s string) bool {
	n := 0
	for _, r := range s {
		if n++; r < 'a' || r > 'z' {
			return false
		}
	}
	return n > 0 && n < 9
}

func (m *model) add(name string, parts, sub, at int) api.Errno {
	switch {
	case !modelName(name) || parts < 1 || parts > 12:
		return 220
	case m.at(name) >= 0:
		return 70
	case len(*m) == 3:
		return 7
	case sub < 1 || sub > 1<<40 || at < 0 || at > 1<<40:
		return 1
	}
	x := api.Group{Name: name, Sub: sub, Next: 1}
	for range parts {
		x.Owners, x.At = append(x.Owners, 0), append(x.At, at)
	}
	*m = append(*m, x)
	return 0
}

func (m *model) drop(name string) (int, api.Errno) {
	i := m.at(name)
	if i < 0 {
		return 0, 220
	}
	sub := (*m)[i].Sub
	*m = append(slices.Clone((*m)[:i]), (*m)[i+1:]...)
	return sub, 0
}

func (m model) join(name string) (int, api.Errno) {
	i := m.at(name)
	switch {
	case i < 0:
		return 0, 220
	case len(m[i].Members) == 6:
		return 0, 7
	case m[i].Term == 1<<40 || m[i].Next == 1<<40:
		return 0, 5
	}
	n := m[i].Next
	m[i].Members = append(slices.Clone(m[i].Members), n)
	m[i].Next++
	m[i].Term++
	m[i].Owners = modelShare(m[i].Owners, m[i].Members)
	return n, 0
}

func (m model) leave(name string, member int) api.Errno {
	i := m.at(name)
	switch {
	case i < 0:
		return 220
	case !slices.Contains(m[i].Members, member):
		return 221
	case m[i].Term == 1<<40:
		return 5
	}
	m[i].Members = slices.DeleteFunc(slices.Clone(m[i].Members), func(n int) bool { return n == member })
	m[i].Term++
	m[i].Owners = modelShare(m[i].Owners, m[i].Members)
	return 0
}

func (m model) owns(name string, member, term, part int) api.Errno {
	i := m.at(name)
	switch {
	case i < 0:
		return 220
	case !slices.Contains(m[i].Members, member):
		return 221
	case m[i].Term != term:
		return 222
	case part < 0 || part >= len(m[i].Owners):
		return 1
	case m[i].Owners[part] != member:
		return 223
	}
	return 0
}

func (m model) commit(name string, member, term, part, pos int) api.Errno {
	if e := m.owns(name, member, term, part); e != 0 {
		return e
	}
	i := m.at(name)
	switch {
	case pos < m[i].At[part]:
		return 82
	case pos > 1<<40:
		return 5
	}
	m[i].At = slices.Clone(m[i].At)
	m[i].At[part] = pos
	return 0
}

func (m model) low(name string) (int, api.Errno) {
	i := m.at(name)
	if i < 0 {
		return 0, 220
	}
	low := m[i].At[0]
	for _, pos := range m[i].At {
		low = min(low, pos)
	}
	return low, 0
}

func modelNumber(n int) []byte {
	var b []byte
	for ; n > 0; n /= 256 {
		b = append([]byte{byte(n)}, b...)
	}
	return append([]byte{byte(len(b))}, b...)
}

// put is the bytes of just such groups, whether they may be or not.
func (m model) put() []byte {
	l := [][]byte{modelNumber(len(m))}
	for _, x := range m {
		l = append(l, modelNumber(len(x.Name)), []byte(x.Name), modelNumber(x.Sub), modelNumber(x.Term), modelNumber(x.Next), modelNumber(len(x.Members)))
		for _, n := range x.Members {
			l = append(l, modelNumber(n))
		}
		l = append(l, modelNumber(len(x.Owners)))
		for _, n := range slices.Concat(x.Owners, x.At) {
			l = append(l, modelNumber(n))
		}
	}
	return bytes.Join(l, nil)
}

// alike tells whether groups are the same, whether lists without anything are nil or not.
func alike(a, b []api.Group) bool {
	return slices.EqualFunc(a, b, func(x, y api.Group) bool {
		lists := slices.Equal(x.Members, y.Members) && slices.Equal(x.Owners, y.Owners) && slices.Equal(x.At, y.At)
		x.Members, x.Owners, x.At, y.Members, y.Owners, y.At = nil, nil, nil, nil, nil, nil
		return lists && reflect.DeepEqual(x, y)
	})
}
