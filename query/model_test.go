package query

import (
	"fmt"
	"maps"
	"math/big"
	"math/rand"
	"reflect"
	"regexp"
	"slices"
	"sort"
	"strings"

	"tidemark/api"
	"tidemark/filter"
	"tidemark/lang"
	"tidemark/views"
)

var (
	modelName   = regexp.MustCompile(`^[a-z]{1,8}$`)
	modelNumber = regexp.MustCompile(`^(0|-?[1-9][0-9]{0,18})$`)
)

func modelCheck(q api.Query) api.Errno {
	if e := filter.Check(q.Where); e != 0 {
		return e
	}
	of := q.Of == ""
	if q.Kind >= 2 {
		of = modelName.MatchString(q.Of)
	}
	by := q.By == "" && !q.Down || modelName.MatchString(q.By)
	if q.Kind < 0 || q.Kind > 4 || !of || !by || min(q.Skip, q.First) < 0 || max(q.Skip, q.First) > 1<<40 {
		return 230
	}
	return 0
}

func modelField(value, name string) (string, bool) {
	for _, p := range strings.Split(value, " ") {
		if i := strings.Index(p, ":"); i >= 0 && p[:i] == name {
			return p[i+1:], true
		}
	}
	return "", false
}

// modelIs is the number that a text is.
func modelIs(s string) (*big.Int, bool) {
	n, ok := new(big.Int).SetString(s, 10)
	return n, ok && modelNumber.MatchString(s) && n.IsInt64()
}

// modelAhead tells whether one pair stands ahead of another one.
func modelAhead(a, b api.Pair, by string) bool {
	if by != "" {
		s, has := modelField(a.Value, by)
		u, also := modelField(b.Value, by)
		n, is := modelIs(s)
		m, too := modelIs(u)
		switch {
		case has != also:
			return has
		case has && is != too:
			return is
		case has && is && n.Cmp(m) != 0:
			return n.Cmp(m) < 0
		case has && !is && s != u:
			return s < u
		}
	}
	return a.Key < b.Key
}

// modelKeys takes the first one of those that are left, again and again.
func modelKeys(q api.Query, l []api.Pair) []api.Row {
	var rows []api.Row
	for l = slices.Clone(l); len(l) > 0; {
		best := 0
		for i := range l {
			if q.Down && modelAhead(l[best], l[i], q.By) || !q.Down && modelAhead(l[i], l[best], q.By) {
				best = i
			}
		}
		rows = append(rows, api.Row{Text: l[best].Value, Keys: []string{l[best].Key}, N: 1})
		l = slices.Delete(l, best, best+1)
	}
	return rows
}

// modelGroups asks all pairs anew for each text.
func modelGroups(q api.Query, l []api.Pair) ([]api.Row, api.Errno) {
	under := func(p api.Pair) (string, bool) {
		if q.By == "" {
			return "", true
		}
		return modelField(p.Value, q.By)
	}
	var texts []string
	for _, p := range l {
		if s, ok := under(p); ok && !slices.Contains(texts, s) {
			texts = append(texts, s)
		}
	}
	sort.Strings(texts)
	if q.Down {
		sort.Sort(sort.Reverse(sort.StringSlice(texts)))
	}
	var rows []api.Row
	for _, text := range texts {
		var all []*big.Int
		count, total := int64(0), new(big.Int)
		for _, p := range l {
			if s, ok := under(p); !ok || s != text {
				continue
			}
			count++
			s, has := modelField(p.Value, q.Of)
			if n, is := modelIs(s); has && is {
				all = append(all, n)
				total.Add(total, n)
			}
		}
		sort.Slice(all, func(i, j int) bool { return all[i].Cmp(all[j]) < 0 })
		row := api.Row{Text: text, N: count}
		switch {
		case q.Kind == 2 && !total.IsInt64():
			return nil, 72
		case q.Kind == 2:
			row.N = total.Int64()
		case q.Kind > 2 && len(all) == 0:
			continue
		case q.Kind == 3:
			row.N = all[0].Int64()
		case q.Kind == 4:
			row.N = all[len(all)-1].Int64()
		}
		rows = append(rows, row)
	}
	return rows, 0
}

func modelOver(q api.Query, all []api.Pair) ([]api.Row, api.Errno) {
	if e := modelCheck(q); e != 0 {
		return nil, e
	}
	var l []api.Pair
	for _, p := range all {
		if filter.Holds(q.Where, api.Event{Key: p.Key, Has: true, Now: p.Value}) {
			l = append(l, p)
		}
	}
	rows, e := modelKeys(q, l), api.OK
	if q.Kind > 0 {
		rows, e = modelGroups(q, l)
	}
	var out []api.Row
	for i, row := range rows {
		if i >= q.Skip && (q.First == 0 || i-q.Skip < q.First) {
			out = append(out, row)
		}
	}
	return out, e
}

func modelMusts(f api.Filter) []api.Filter {
	l := []api.Filter{f}
	for i := 0; i < len(l); {
		if l[i].Kind == 5 {
			l = slices.Concat(l[:i], l[i].Kids, l[i+1:])
		} else {
			i++
		}
	}
	return l
}

// modelPlan is the plan over views whose rows are told.
func modelPlan(f api.Filter, l []api.View) api.Plan {
	longest := api.Plan{}
	for _, p := range modelMusts(f) {
		for _, w := range l {
			if p.Kind == 2 && w.Kind == 1 && w.Field == p.Name {
				return api.Plan{Kind: 2, Field: p.Name, Text: p.Text}
			}
		}
		if p.Kind == 1 && len(p.Text) > len(longest.Text) {
			longest = api.Plan{Kind: 1, Text: p.Text}
		}
	}
	return longest
}

func modelPrint(q api.Query) string {
	s := []string{"keys", "count", "sum " + q.Of, "least " + q.Of, "top " + q.Of}[q.Kind]
	if q.Where.Kind != 0 {
		f, _ := lang.Print(q.Where)
		s += " where " + f
	}
	if q.By != "" {
		s += " by " + q.By
	}
	if q.Down {
		s += " down"
	}
	if q.Skip != 0 {
		s += fmt.Sprint(" skip ", q.Skip)
	}
	if q.First != 0 {
		s += fmt.Sprint(" first ", q.First)
	}
	return s
}

// modelParse goes through tokens by a list of what may come.
func modelParse(s string) (q api.Query, at int, e api.Errno) {
	l, at, e := lang.Tokens(s)
	if e != 0 {
		return q, at, e
	}
	l = append(l, api.Token{At: len(s)})
	is := func(word string) bool { return l[0].Kind == 1 && l[0].Text == word }
	q.Kind = slices.IndexFunc([]string{"keys", "count", "sum", "least", "top"}, is)
	if q.Kind < 0 {
		return api.Query{}, l[0].At, 192
	}
	came := l[0].Text
	l = l[1:]
	for _, word := range []string{came, "where", "by", "down", "skip", "first"} {
		if word != came {
			if !is(word) {
				continue
			}
			l = l[1:]
		}
		n, number := modelIs(l[0].Text)
		switch word {
		case "keys", "count":
			continue
		case "down":
			q.Down = true
			continue
		case "sum", "least", "top", "by":
			if l[0].Kind != 1 {
				return api.Query{}, l[0].At, 192
			}
			*map[bool]*string{true: &q.By, false: &q.Of}[word == "by"] = l[0].Text
		case "skip", "first":
			if l[0].Kind != 3 || !number || n.Sign() < 1 || n.Int64() > 1<<40 {
				return api.Query{}, l[0].At, 192
			}
			*map[string]*int{"skip": &q.Skip, "first": &q.First}[word] = int(n.Int64())
		case "where":
			from := l[0].At
			r, _, _ := lang.Read(s[from:])
			f, at, e := r.Filter()
			if e != 0 {
				return api.Query{}, from + at, e
			}
			q.Where = f
			for l[0].At < from+r.Peek().At {
				l = l[1:]
			}
			continue
		}
		l = l[1:]
	}
	if l[0].Kind != 0 {
		return api.Query{}, l[0].At, 3
	}
	if e := modelCheck(q); e != 0 {
		return api.Query{}, 0, e
	}
	return q, 0, 0
}

func alike(a, b []api.Row) bool {
	return len(a) == 0 && len(b) == 0 || reflect.DeepEqual(a, b)
}

func same(a, b api.Query) bool { return reflect.DeepEqual(a, b) }

func one(r *rand.Rand, l ...string) string { return l[r.Intn(len(l))] }

// anyValue is some fields; many of its numbers are so great that a few make a sum too great.
func anyValue(r *rand.Rand) string {
	n := one(r, "1", "-2", "0", "10", "9", "-10", "9223372036854775807", "-9223372036854775808", "4611686018427387904", "4611686018427387904", "07", "x", "", "9223372036854775808", "-0")
	parts := []string{"n:" + n, "m:" + one(r, "1", "5", "-7"), "a:" + one(r, "x", "y", "", "é", "x:y", "3", "20"), "b:" + one(r, "x", "1"), "a", ":", ":z"}
	r.Shuffle(len(parts), func(i, j int) { parts[i], parts[j] = parts[j], parts[i] })
	return strings.Join(parts[:r.Intn(len(parts)+1)], " ")
}

// anyPart is a filter that may be; its kids are, too.
func anyPart(r *rand.Rand, deep int) api.Filter {
	f := api.Filter{Kind: r.Intn(7)}
	if deep > 3 {
		f.Kind = r.Intn(4)
	}
	kids := 0
	switch f.Kind {
	case api.FPrefix:
		f.Text = one(r, "k", "k1", "ké", "l", "l0")
	case api.FEqual:
		f.Name, f.Text = one(r, "a", "b", "n", "q"), one(r, "x", "y", "", "1", "3")
	case api.FNot:
		kids = 1
	case api.FAnd, api.FOr:
		kids = r.Intn(4)
	}
	for range kids {
		f.Kids = append(f.Kids, anyPart(r, deep+1))
	}
	return f
}

func anyWhere(r *rand.Rand) api.Filter {
	for {
		f := anyPart(r, r.Intn(4))
		if r.Intn(2) == 0 {
			f = api.Filter{Kind: api.FAnd, Kids: []api.Filter{f, anyPart(r, 4), anyPart(r, 4)}}
		}
		if filter.Check(f) == api.OK {
			return f
		}
	}
}

// anyQuery is a question that can be.
func anyQuery(r *rand.Rand) api.Query {
	q := api.Query{Kind: r.Intn(5)}
	if q.Kind > 1 {
		q.Of = one(r, "n", "n", "n", "m", "a", "q")
	}
	if r.Intn(3) > 0 {
		q.Where = anyWhere(r)
	}
	if r.Intn(3) > 0 {
		q.By, q.Down = one(r, "a", "b", "n", "m", "q"), r.Intn(2) == 0
	}
	if r.Intn(3) == 0 {
		q.Skip = r.Intn(5)
	}
	if r.Intn(3) == 0 {
		q.First = r.Intn(5)
	}
	return q
}

// anyPairs is keys and what they have, in any order; some keys may stand there twice.
func anyPairs(r *rand.Rand) []api.Pair {
	var l []api.Pair
	for range r.Intn(14) {
		l = append(l, api.Pair{Key: one(r, "k", "l", "ké", "k1") + one(r, "", "0", "1", "2"), Value: anyValue(r)})
	}
	return l
}

// fake is a map that is asked, and that notes which keys it was asked for.
type fake struct {
	pairs  map[string]string
	views  []api.View
	untold string // the name of views whose rows it does not tell
	asked  []string
}

func (f *fake) all() []api.Op {
	var l []api.Op
	for _, key := range slices.Sorted(maps.Keys(f.pairs)) {
		l = append(l, api.Op{Key: key, Has: true, Value: f.pairs[key]})
	}
	return l
}

func (f *fake) Keys(from, to string) []api.Op {
	f.asked = append(f.asked, from+"-"+to)
	var l []api.Op
	for _, o := range f.all() {
		if o.Key >= from && (to == "" || o.Key < to) {
			l = append(l, o)
		}
	}
	return l
}

func (f *fake) Views() []api.View { return slices.Clone(f.views) }

func (f *fake) Rows(name string) ([]api.Row, api.Errno) {
	i := slices.IndexFunc(f.views, func(w api.View) bool { return w.Name == name && name != f.untold })
	if i < 0 {
		return nil, api.ErrNone
	}
	return views.Of(f.views[i], f.all())
}

// had is all pairs that one has who is asked.
func had(a Asked) []api.Pair {
	var l []api.Pair
	for _, o := range a.Keys("", "") {
		l = append(l, api.Pair{Key: o.Key, Value: o.Value})
	}
	return l
}
