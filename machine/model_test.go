package machine

import (
	"bytes"
	"fmt"
	"maps"
	"math/rand"
	"reflect"
	"slices"
	"strings"

	"tidemark/api"
	"tidemark/feed"
	"tidemark/filter"
	"tidemark/group"
	"tidemark/kv"
	"tidemark/sess"
	"tidemark/text"
	"tidemark/views"
)

// kinds tells of each kind what it has; * ahead of it: a session, too.
func kinds() map[int]string {
	return map[int]string{
		0: "", 1: "", 2: "* Conds Ops", 3: "*", 4: "* View", 5: "* Name", 6: "* Filter", 7: "* Sub Pos", 8: "* Sub", 9: "Roster",
		10: "From Pos Ops", 11: "Pos Ops", 12: "* Name Pos Filter", 13: "* Name", 14: "* Name Sub", 15: "* Name Sub From Part Pos", 16: "* Name",
	}
}

func has(list, word string) bool { return slices.Contains(strings.Fields(list), word) }

// zero tells whether a value has nothing; a list without anything is none.
func zero(v reflect.Value) bool {
	switch v.Kind() {
	case reflect.Slice:
		return v.Len() == 0
	case reflect.Struct:
		for i := range v.NumField() {
			if !zero(v.Field(i)) {
				return false
			}
		}
		return true
	}
	return v.IsZero()
}

// modelFormed tells whether a command has all that its kind has, and nothing else.
func modelFormed(c api.Command) bool {
	list, ok := kinds()[c.Kind]
	for _, n := range []int{c.Session, c.Seq, c.Sub, c.Pos, c.From, c.Part} {
		ok = ok && n >= 0 && n <= 1<<40
	}
	if has(list, "*") {
		ok = ok && c.Session > 0 && c.Seq > 0
		c.Session, c.Seq = 0, 0
	}
	if has(list, "Name") {
		c.View.Name = ""
	}
	v := reflect.ValueOf(c)
	for i := range v.NumField() {
		name := v.Type().Field(i).Name
		ok = ok && (name == "Kind" || has(list, name) || zero(v.Field(i)))
	}
	return ok
}

func modelCheck(c api.Command) api.Errno {
	if !modelFormed(c) {
		return 100
	}
	switch c.Kind {
	case 2:
		return kv.Check(c.Conds, c.Ops)
	case 4:
		return views.Check(c.View)
	case 5:
		return text.Name(c.View.Name)
	case 6:
		return filter.Check(c.Filter)
	case 9:
		if len(c.Roster.Voters) > 5 || len(c.Roster.Learners) > 5 {
			return 110
		}
		for _, n := range slices.Concat(c.Roster.Voters, c.Roster.Learners) {
			if n < 0 || n > 4 {
				return 110
			}
		}
	case 10:
		if c.Pos <= c.From {
			return 100
		}
		if len(c.Ops) > 32 {
			return 61
		}
		for _, o := range c.Ops {
			if e := kv.Check(nil, []api.Op{o}); e != 0 {
				return e
			}
		}
	case 11:
		if c.Pos == 0 {
			return 100
		}
		return kv.New().Set(c.Ops)
	case 12:
		if e := group.Check(c.View.Name, c.Pos); e != 0 {
			return e
		}
		return filter.Check(c.Filter)
	case 13, 14, 15, 16:
		if text.Name(c.View.Name) != 0 {
			return 220
		}
	}
	return 0
}

func modelNumber(n int) []byte {
	var b []byte
	for ; n > 0; n /= 256 {
		b = append([]byte{byte(n)}, b...)
	}
	return append([]byte{byte(len(b))}, b...)
}

func modelText(s string) []byte { return append(modelNumber(len(s)), s...) }

func modelOps(l []api.Op) []byte {
	b := modelNumber(len(l))
	for _, o := range l {
		b = append(b, modelText(o.Key)...)
		if b = append(b, 0); o.Has {
			b = append(b[:len(b)-1], 1, 1)
		}
		b = append(b, modelText(o.Value)...)
	}
	return b
}

func modelView(w api.View) []byte {
	return bytes.Join([][]byte{modelNumber(w.Kind), modelText(w.Name), modelText(w.Field), modelText(w.Of)}, nil)
}

func modelFilter(f api.Filter) []byte {
	b := bytes.Join([][]byte{modelNumber(f.Kind), modelText(f.Name), modelText(f.Text), modelNumber(len(f.Kids))}, nil)
	for _, k := range f.Kids {
		b = append(b, modelFilter(k)...)
	}
	return b
}

// modelPut is the bytes of a command, whether it may be or not.
func modelPut(c api.Command) []byte {
	var b []byte
	for _, n := range []int{c.Kind, c.Session, c.Seq, c.Sub, c.Pos, c.From, c.Part} {
		b = append(b, modelNumber(n)...)
	}
	b = bytes.Join([][]byte{b, modelOps(c.Conds), modelOps(c.Ops), modelView(c.View), modelFilter(c.Filter)}, nil)
	for _, l := range [][]int{c.Roster.Voters, c.Roster.Learners} {
		b = append(b, modelNumber(len(l))...)
		for _, n := range l {
			b = append(b, modelNumber(n)...)
		}
	}
	return b
}

// model is a machine whose map is Go's, and whose views are told anew whenever they are asked for. What the layers below have tests for (feeds, sessions, groups) it has from there.
type model struct {
	at, mark int
	keys     map[string]string
	views    []api.View
	feed     *feed.Feed
	seats    *sess.Table
	groups   *group.Groups
}

func newModel() *model {
	return &model{keys: map[string]string{}, feed: feed.New(), seats: sess.New(), groups: group.New()}
}

func opsOf(keys map[string]string) []api.Op {
	var l []api.Op
	for _, key := range slices.Sorted(maps.Keys(keys)) {
		l = append(l, api.Op{Key: key, Has: true, Value: keys[key]})
	}
	return l
}

// change is that the map has other keys, if no view has a sum that is too great then.
func (m *model) change(next map[string]string) api.Errno {
	for _, w := range m.views {
		if _, e := views.Of(w, opsOf(next)); e != 0 {
			return e
		}
	}
	m.keys = next
	return 0
}

// event is what an operation changes of keys, and whether it does; the keys are as it leaves them.
func event(index int, keys map[string]string, o api.Op) (api.Event, bool) {
	old, had := keys[o.Key]
	if had == o.Has && old == o.Value {
		return api.Event{}, false
	}
	delete(keys, o.Key)
	if o.Has {
		keys[o.Key] = o.Value
	}
	return api.Event{Pos: index, Key: o.Key, Had: had, Old: old, Has: o.Has, Now: o.Value}, true
}

func (m *model) write(c api.Command) ([]api.Event, api.Errno) {
	for _, o := range c.Conds {
		if v, ok := m.keys[o.Key]; ok != o.Has || v != o.Value {
			return nil, 60
		}
	}
	next, l := maps.Clone(m.keys), []api.Event(nil)
	for _, o := range c.Ops {
		if e, ok := event(m.at, next, o); ok {
			l = append(l, e)
		}
	}
	if len(next) > 24 {
		return nil, 7
	}
	if e := m.change(next); e != 0 {
		return nil, e
	}
	return l, 0
}

func (m *model) apply(c api.Command) ([]api.Event, api.Errno) {
	if c.From != m.mark {
		return nil, 101
	}
	next, l := maps.Clone(m.keys), []api.Event(nil)
	for _, o := range c.Ops {
		e, ok := event(m.at, next, o)
		if ok {
			l = append(l, e)
		}
		if len(next) > 24 {
			return nil, 7
		}
	}
	if e := m.change(next); e != 0 {
		return nil, e
	}
	m.mark = c.Pos
	return l, 0
}

func (m *model) reset(c api.Command) ([]api.Event, api.Errno) {
	next, l := map[string]string{}, []api.Event(nil)
	for _, o := range c.Ops {
		next[o.Key] = o.Value
	}
	for _, o := range opsOf(m.keys) {
		if _, stays := next[o.Key]; !stays {
			l = append(l, api.Event{Pos: m.at, Key: o.Key, Had: true, Old: o.Value})
		}
	}
	for _, o := range opsOf(next) {
		if e, ok := event(m.at, maps.Clone(m.keys), o); ok {
			l = append(l, e)
		}
	}
	if e := m.change(next); e != 0 {
		return nil, e
	}
	m.mark = c.Pos
	return l, 0
}

// do is what stands in the document's table, but for what is done behind the Note.
func (m *model) do(c api.Command) (n int, l []api.Event, e api.Errno) {
	name := c.View.Name
	switch c.Kind {
	case 1:
		n, e = m.seats.Open()
	case 2:
		l, e = m.write(c)
	case 3:
		e = m.seats.Close(c.Session)
	case 4:
		e = m.view(c.View)
	case 5:
		i := slices.IndexFunc(m.views, func(w api.View) bool { return w.Name == name })
		if i < 0 {
			return 0, nil, 71
		}
		m.views = slices.Delete(slices.Clone(m.views), i, i+1)
	case 7:
		e = m.feed.Ack(c.Sub, c.Pos)
	case 8:
		e = m.feed.Drop(c.Sub)
	case 10:
		if c.Pos > m.mark {
			l, e = m.apply(c)
		}
		n = m.mark
	case 11:
		if c.Pos > m.mark {
			l, e = m.reset(c)
		}
		n = m.mark
	case 13:
		n, e = m.groups.Join(name)
	case 14:
		e = m.groups.Leave(name, c.Sub)
	case 15:
		if e = m.groups.Commit(name, c.Sub, c.From, c.Part, c.Pos); e == 0 {
			g, _ := m.groups.Get(name)
			m.feed.Ack(g.Sub, min(slices.Min(g.At), m.feed.Top()))
		}
	case 16:
		var sub int
		if sub, e = m.groups.Drop(name); e == 0 {
			m.feed.Drop(sub) // whether it was there or not
		}
	}
	return n, l, e
}

func (m *model) view(w api.View) api.Errno {
	_, over := views.Of(w, opsOf(m.keys))
	switch {
	case slices.ContainsFunc(m.views, func(x api.View) bool { return x.Name == w.Name }):
		return 70
	case len(m.views) == 4:
		return 7
	case over == 0:
		m.views = append(slices.Clone(m.views), w)
	}
	return over
}

// Apply is as the machine's.
func (m *model) Apply(index int, c api.Command) api.Reply {
	if index != m.at+1 || index > 1<<40 {
		return api.Reply{Err: 1}
	}
	m.at = index
	counts := has(kinds()[c.Kind], "*")
	if modelCheck(c) != 0 || len(modelPut(c)) > 8192 {
		m.feed.Note(index)
		return api.Reply{Err: 100}
	}
	if counts {
		r, fresh, e := m.seats.Ask(c.Session, c.Seq)
		if e != 0 || !fresh {
			m.feed.Note(index)
			return api.Reply{Err: e + r.Err, N: r.N}
		}
	}
	n, l, e := m.do(c)
	m.feed.Note(index, l...)
	switch c.Kind {
	case 6:
		n, e = m.feed.Add(c.Filter)
	case 12:
		if n, e = m.feed.Add(c.Filter); e == 0 {
			if e = m.groups.Add(c.View.Name, c.Pos, n, index); e != 0 {
				m.feed.Drop(n)
				n = 0
			}
		}
	}
	if counts && c.Kind != 3 {
		m.seats.Keep(c.Session, c.Seq, api.Reply{Err: e, N: n})
	}
	return api.Reply{Err: e, N: n}
}

// image is the bytes of all that a model has.
func (m *model) image() []byte {
	return modelImage(m.at, m.mark, opsOf(m.keys), m.views, m.feed.Put(nil), m.seats.Put(nil), m.groups.Put(nil))
}

// modelImage is the bytes of a machine that has just these, whether it may be or not.
func modelImage(at, mark int, keys []api.Op, l []api.View, feed, seats, groups []byte) []byte {
	b := bytes.Join([][]byte{modelNumber(at), modelNumber(mark), modelOps(keys), modelNumber(len(l))}, nil)
	for _, w := range l {
		b = append(b, modelView(w)...)
	}
	return slices.Concat(b, feed, seats, groups)
}

// same tells how a machine is unlike a model; nothing, if it is not.
func same(m *Machine, want *model) error {
	if m.At() != want.at || m.Mark() != want.mark || !slices.Equal(m.Keys("", ""), opsOf(want.keys)) || !slices.Equal(m.Views(), want.views) {
		return fmt.Errorf("%d %d %v %v, not %d %d %v %v", m.At(), m.Mark(), m.Keys("", ""), m.Views(), want.at, want.mark, want.keys, want.views)
	}
	for _, w := range want.views {
		rows, e := m.Rows(w.Name)
		if of, _ := views.Of(w, opsOf(want.keys)); e != 0 || !alike(rows, of) {
			return fmt.Errorf("%v: %v %d, not %v", w, rows, e, of)
		}
	}
	if !alike(m.Subs(), want.feed.List()) || !slices.Equal(m.Seats(), want.seats.List()) || !sameGroups(m.Groups(), want.groups.List()) {
		return fmt.Errorf("%v %v %v, not %v %v %v", m.Subs(), m.Seats(), m.Groups(), want.feed.List(), want.seats.List(), want.groups.List())
	}
	if b := m.Image(); !bytes.Equal(b, want.image()) {
		return fmt.Errorf("image %x, not %x", b, want.image())
	}
	return nil
}

// alike tells whether lists are the same; one without anything may be nil.
func alike(a, b any) bool {
	v, w := reflect.ValueOf(a), reflect.ValueOf(b)
	return v.Len() == 0 && w.Len() == 0 || reflect.DeepEqual(a, b)
}

func sameGroups(a, b []api.Group) bool {
	return slices.EqualFunc(a, b, func(x, y api.Group) bool {
		lists := slices.Equal(x.Members, y.Members) && slices.Equal(x.Owners, y.Owners) && slices.Equal(x.At, y.At)
		return lists && x.Name == y.Name && x.Sub == y.Sub && x.Term == y.Term && x.Next == y.Next
	})
}

func one[T any](r *rand.Rand, l ...T) T { return l[r.Intn(len(l))] }

func anyFilter(r *rand.Rand) api.Filter {
	return one(r, api.Filter{}, api.Filter{}, api.Filter{Kind: api.FPut}, api.Filter{Kind: api.FPrefix, Text: "a"}, api.Filter{Kind: api.FEqual, Name: "g", Text: "x"}, api.Filter{Kind: api.FNot, Kids: []api.Filter{{Kind: api.FPrefix, Text: "b"}}}, api.Filter{Kind: api.FOr})
}

// anyValue is some fields; its numbers are so great, at times, that two of them make a sum too great.
func anyValue(r *rand.Rand) string {
	return one(r, "", "g:x n:1", "g:x n:-2", "g:y n:7", "g:x n:6000000000000000000", "g:x n:-6000000000000000000", "g:y n:6000000000000000000 m:1", "n:9 m:6000000000000000000")
}

func anyKey(r *rand.Rand) string { return one(r, "a", "b", "é") + fmt.Sprint(r.Intn(12)) }

func anyOps(r *rand.Rand, most int) []api.Op {
	var l []api.Op
	for range r.Intn(most + 1) {
		o := api.Op{Key: anyKey(r), Has: r.Intn(5) > 0}
		if o.Has {
			o.Value = anyValue(r)
		}
		l = append(l, o)
	}
	return l
}

// unlike is operations without those whose key one ahead has, and, if all are to be there, without those that take one away.
func unlike(l []api.Op, all bool) []api.Op {
	var out []api.Op
	for _, o := range l {
		if !slices.ContainsFunc(out, func(x api.Op) bool { return x.Key == o.Key }) && (o.Has || !all) {
			out = append(out, o)
		}
	}
	return out
}

// anyCommand is one that often may be done.
func (m *model) anyCommand(r *rand.Rand) api.Command {
	c := api.Command{Kind: one(r, 0, 1, 2, 2, 2, 2, 2, 2, 3, 4, 4, 5, 6, 6, 7, 7, 7, 8, 9, 10, 10, 10, 11, 12, 12, 13, 13, 13, 14, 15, 15, 15, 15, 16)}
	if l := m.seats.List(); has(kinds()[c.Kind], "*") {
		seat := api.Seat{Session: r.Intn(9)}
		if len(l) > 0 && r.Intn(20) > 0 {
			seat = one(r, l...)
		}
		c.Session, c.Seq = seat.Session, max(1, seat.Seq+one(r, 1, 1, 1, 1, 1, 1, 1, 1, 0, 2))
	}
	if c.Kind == 3 && r.Intn(4) > 0 {
		c.Kind = 2
	}
	list := kinds()[c.Kind]
	if has(list, "Name") {
		c.View.Name = one(r, "a", "b", "c", "d")
	}
	switch c.Kind {
	case 2:
		c.Ops = unlike(anyOps(r, 7), false)
		for _, o := range opsOf(m.keys) {
			if r.Intn(20) == 0 {
				c.Conds = append(c.Conds, o)
			}
		}
		if r.Intn(6) == 0 {
			c.Conds = append(c.Conds, anyOps(r, 1)...)
		}
	case 4:
		c.View = api.View{Name: one(r, "a", "b", "c", "d", "e"), Kind: 1 + r.Intn(3), Field: one(r, "g", "n")}
		if c.View.Kind == 3 {
			c.View.Of = one(r, "n", "m")
		}
	case 6:
		c.Filter = anyFilter(r)
	case 7, 8:
		m.anySub(r, &c)
	case 9:
		c.Roster = api.Roster{Voters: []int{r.Intn(5)}, Learners: []int{0, r.Intn(6)}}
	case 10:
		c.From = max(0, m.mark+one(r, 0, 0, 0, 0, 0, -1, 1))
		c.Pos, c.Ops = c.From+one(r, 1, 1, 2, 5, 0), anyOps(r, 9)
	case 11:
		c.Pos, c.Ops = m.mark+r.Intn(4), unlike(anyOps(r, 16), true)
	case 12:
		c.Pos, c.Filter = r.Intn(6), anyFilter(r)
	case 14, 15:
		m.anyMember(r, &c)
	}
	return c
}

func (m *model) anySub(r *rand.Rand, c *api.Command) {
	s := api.Sub{ID: 1 + r.Intn(9)}
	if l := m.feed.List(); len(l) > 0 && r.Intn(6) > 0 {
		s = one(r, l...)
	}
	c.Sub = s.ID
	if c.Kind == 7 {
		c.Pos = max(0, s.At-1+r.Intn(m.at-s.At+3))
	}
}

func (m *model) anyMember(r *rand.Rand, c *api.Command) {
	x, _ := m.groups.Get(c.View.Name)
	c.Sub = r.Intn(8)
	if len(x.Members) > 0 && r.Intn(6) > 0 {
		c.Sub = one(r, x.Members...)
	}
	if c.Kind == 14 {
		return
	}
	c.From, c.Part = max(0, x.Term-r.Intn(8)/7), r.Intn(len(x.At)+1)
	if i := slices.Index(x.Owners, c.Sub); i >= 0 && r.Intn(3) > 0 {
		c.Part = i
	}
	if c.Part < len(x.At) {
		c.Pos = max(0, x.At[c.Part]+r.Intn(12)-1)
	}
}
