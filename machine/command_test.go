package machine

import (
	"bytes"
	"math"
	"math/rand"
	"reflect"
	"slices"
	"strings"
	"testing"
	"unicode/utf8"

	"tidemark/api"
)

const most = api.MaxIndex

func put(key, value string) api.Op { return api.Op{Key: key, Has: true, Value: value} }

func gone(key string) api.Op { return api.Op{Key: key} }

// each is a command of each kind, which may be and has something wherever its kind does.
func each() []api.Command {
	ops := []api.Op{put("a", "g:x n:1"), gone("b")}
	name := api.View{Name: "g"}
	f := api.Filter{Kind: api.FAnd, Kids: []api.Filter{{Kind: api.FPrefix, Text: "a"}, {Kind: api.FPut}}}
	return []api.Command{
		{}, {Kind: api.COpen}, {Kind: api.CWrite, Session: 1, Seq: 2, Conds: []api.Op{put("c", "")}, Ops: ops}, {Kind: api.CClose, Session: most, Seq: most}, {Kind: api.CView, Session: 1, Seq: 2, View: api.View{Name: "s", Kind: api.VSum, Field: "g", Of: "n"}}, {Kind: api.CDrop, Session: 1, Seq: 2, View: name},
		{Kind: api.CSub, Session: 1, Seq: 2, Filter: f}, {Kind: api.CAck, Session: 1, Seq: 2, Sub: most, Pos: most}, {Kind: api.CUnsub, Session: 1, Seq: 2, Sub: 7}, {Kind: api.CRoster, Roster: api.Roster{Voters: []int{0, 4, 0, 1, 2}, Learners: []int{4, 3, 2, 1, 0}}}, {Kind: api.CApply, From: 5, Pos: 6, Ops: ops}, {Kind: api.CReset, Pos: 1, Ops: ops[:1]},
		{Kind: api.CGroup, Session: 1, Seq: 2, View: name, Pos: 12, Filter: f}, {Kind: api.CJoin, Session: 1, Seq: 2, View: name}, {Kind: api.CLeave, Session: 1, Seq: 2, View: name, Sub: 3}, {Kind: api.CCommit, Session: 1, Seq: 2, View: name, Sub: 3, From: 4, Part: 5, Pos: 6}, {Kind: api.CGone, Session: 1, Seq: 2, View: name},
	}
}

// P15.1
func TestCounts(t *testing.T) {
	for kind := -3; kind < 40; kind++ {
		want := slices.Contains([]int{2, 3, 4, 5, 6, 7, 8, 12, 13, 14, 15, 16}, kind)
		if Counts(kind) != want || has(kinds()[kind], "*") != want {
			t.Error(kind, Counts(kind))
		}
	}
	if Counts(math.MaxInt) || Counts(math.MinInt) {
		t.Error("no kinds")
	}
}

// checks fails unless a command is answered so by Check and Put, and its bytes by Get.
func checks(t *testing.T, c api.Command, want api.Errno) {
	t.Helper()
	if got := Check(c); got != want || modelCheck(c) != want {
		t.Errorf("%v: %d, not %d", c, got, want)
	}
	b, e := Put(c)
	if e != want || e == api.OK && !bytes.Equal(b, modelPut(c)) || e != api.OK && len(b) != 0 {
		t.Errorf("%v: Put: %x %d", c, b, e)
	}
	if slices.Min(append(slices.Concat(c.Roster.Voters, c.Roster.Learners), c.Kind, c.Sub, c.Pos, c.From, c.Part, c.Session, c.Seq)) < 0 {
		return // a number that bytes can't tell
	}
	got, e := Get(modelPut(c))
	if want == api.OK && (e != api.OK || !bytes.Equal(modelPut(got), modelPut(c))) || want != api.OK && (e != api.ErrCommand || !zero(reflect.ValueOf(got))) {
		t.Errorf("%v: Get: %v %d", c, got, e)
	}
}

// P15.1: each kind with each of the numbers and fields that it has, or has not.
func TestWhatKindsHave(t *testing.T) {
	for kind, c := range each() {
		if c.Kind != kind {
			t.Fatal(kind)
		}
		checks(t, c, api.OK)
		set := func(i int, v any) api.Command {
			next := c
			reflect.ValueOf(&next).Elem().Field(i).Set(reflect.ValueOf(v))
			return next
		}
		fields := reflect.TypeOf(c)
		for i := range fields.NumField() {
			name := fields.Field(i).Name
			counted := name == "Session" || name == "Seq"
			held := has(kinds()[kind], name) || has(kinds()[kind], "*") && counted
			switch reflect.ValueOf(c).Field(i).Interface().(type) {
			case int:
				for _, n := range []int{-1, most + 1, math.MaxInt, math.MinInt} {
					checks(t, set(i, n), api.ErrCommand)
				}
				if name != "Kind" && !held {
					checks(t, set(i, 1), api.ErrCommand)
				}
				if counted && held {
					checks(t, set(i, 0), api.ErrCommand)
				}
			case []api.Op:
				both := c
				both.Conds, both.Ops = []api.Op{put("c", "")}, []api.Op{put("c", "")}
				if !held {
					checks(t, both, api.ErrCommand)
					checks(t, set(i, []api.Op{put("a", "")}), api.ErrCommand)
					checks(t, set(i, []api.Op{}), api.OK)
				}
			case api.Filter:
				for _, f := range []api.Filter{{Kind: api.FPut}, {Name: "a"}, {Text: "a"}, {Kids: []api.Filter{{}}}} {
					if !held {
						checks(t, set(i, f), api.ErrCommand)
					}
				}
			case api.Roster:
				for _, l := range []api.Roster{{Voters: []int{0}}, {Learners: []int{0}}, {Voters: []int{0}, Learners: []int{0}}} {
					if !held {
						checks(t, set(i, l), api.ErrCommand)
					}
				}
			case api.View:
				for _, w := range []api.View{{Name: "g", Kind: 1}, {Name: "g", Field: "g"}, {Name: "g", Of: "g"}} {
					if !held {
						checks(t, set(i, w), api.ErrCommand)
					}
				}
				if !held && !has(kinds()[kind], "Name") {
					checks(t, set(i, api.View{Name: "g"}), api.ErrCommand)
				}
			}
		}
	}
	for _, kind := range []int{-1, 17, 100, math.MaxInt, math.MinInt} {
		checks(t, api.Command{Kind: kind}, api.ErrCommand)
		checks(t, api.Command{Kind: kind, Session: 1, Seq: 1}, api.ErrCommand)
	}
}

func many(n int) []api.Op {
	var l []api.Op
	for i := range n {
		l = append(l, put("k"+string(rune('a'+i)), "v"))
	}
	return l
}

// P15.1: what stands in the table.
func TestWhatKindsMayHave(t *testing.T) {
	all := each()
	with := func(kind int, change func(c *api.Command)) api.Command {
		c := all[kind]
		change(&c)
		return c
	}
	ops := func(kind int, l ...api.Op) api.Command {
		return with(kind, func(c *api.Command) { c.Ops = l })
	}
	roster := func(voters, learners []int) api.Command {
		return api.Command{Kind: api.CRoster, Roster: api.Roster{Voters: voters, Learners: learners}}
	}
	deep := api.Filter{}
	for range 6 {
		deep = api.Filter{Kind: api.FNot, Kids: []api.Filter{deep}}
	}
	twice := []api.Op{put("a", "1"), put("a", "1")}
	for _, x := range []struct {
		c    api.Command
		want api.Errno
	}{
		{ops(api.CWrite), api.ErrOps}, {ops(api.CWrite, many(6)...), api.OK}, {ops(api.CWrite, many(7)...), api.ErrOps}, {ops(api.CWrite, twice...), api.ErrOps}, {ops(api.CWrite, put("", "")), api.ErrKey}, {ops(api.CWrite, put("a", "\n")), api.ErrValue}, {ops(api.CWrite, api.Op{Key: "a", Value: "x"}), api.ErrValue},
		{with(api.CWrite, func(c *api.Command) { c.Conds = many(6) }), api.OK}, {with(api.CWrite, func(c *api.Command) { c.Conds = many(7) }), api.ErrOps}, {with(api.CWrite, func(c *api.Command) { c.Conds = twice }), api.ErrOps}, {with(api.CWrite, func(c *api.Command) { c.Conds = []api.Op{put("\xff", "")} }), api.ErrKey},
		{with(api.CView, func(c *api.Command) { c.View.Kind, c.View.Of = 4, "" }), api.ErrArg}, {with(api.CView, func(c *api.Command) { c.View.Name = "" }), api.ErrField}, {with(api.CView, func(c *api.Command) { c.View.Of = "" }), api.ErrField}, {with(api.CDrop, func(c *api.Command) { c.View.Name = "" }), api.ErrField}, {with(api.CDrop, func(c *api.Command) { c.View.Name = "abcdefghi" }), api.ErrField}, {with(api.CDrop, func(c *api.Command) { c.View.Name = "abcdefgh" }), api.OK},
		{with(api.CSub, func(c *api.Command) { c.Filter = api.Filter{} }), api.OK}, {with(api.CSub, func(c *api.Command) { c.Filter = api.Filter{Kind: 9} }), api.ErrFilter}, {with(api.CSub, func(c *api.Command) { c.Filter = deep }), api.ErrDeep}, {with(api.CSub, func(c *api.Command) { c.Filter = deep.Kids[0] }), api.OK},
		{with(api.CAck, func(c *api.Command) { c.Sub, c.Pos = 0, 0 }), api.OK}, {with(api.CUnsub, func(c *api.Command) { c.Sub = 0 }), api.OK},
		{roster(nil, nil), api.OK}, {roster([]int{5}, nil), api.ErrRoster}, {roster(nil, []int{5}), api.ErrRoster}, {roster([]int{-1}, nil), api.ErrRoster}, {roster(nil, []int{math.MinInt}), api.ErrRoster}, {roster([]int{0, 0, 0, 0, 0}, nil), api.OK}, {roster([]int{0, 0, 0, 0, 0, 0}, nil), api.ErrRoster}, {roster(nil, []int{0, 1, 2, 3, 4, 0}), api.ErrRoster},
		{ops(api.CApply), api.OK}, {ops(api.CApply, twice...), api.OK}, {ops(api.CApply, slices.Repeat(twice, 16)...), api.OK}, {ops(api.CApply, slices.Repeat(twice, 17)...), api.ErrOps}, {ops(api.CApply, many(33)...), api.ErrOps}, {ops(api.CApply, put("a", ""), put("", "")), api.ErrKey}, {ops(api.CApply, gone("a"), put("a", "\x7f")), api.ErrValue}, {ops(api.CApply, api.Op{Key: "a", Value: "x"}), api.ErrValue},
		{with(api.CApply, func(c *api.Command) { c.From = 6 }), api.ErrCommand}, {with(api.CApply, func(c *api.Command) { c.From, c.Ops = 7, many(33) }), api.ErrCommand}, {with(api.CApply, func(c *api.Command) { c.From, c.Pos = 0, 0 }), api.ErrCommand}, {with(api.CApply, func(c *api.Command) { c.From, c.Pos = most-1, most }), api.OK},
		{ops(api.CReset), api.OK}, {ops(api.CReset, many(24)...), api.OK}, {ops(api.CReset, many(25)...), api.ErrFull}, {ops(api.CReset, twice...), api.ErrOps}, {ops(api.CReset, gone("a")), api.ErrOps}, {ops(api.CReset, put("", "")), api.ErrKey}, {ops(api.CReset, put("a", "\x00")), api.ErrValue}, {with(api.CReset, func(c *api.Command) { c.Pos = 0 }), api.ErrCommand}, {with(api.CReset, func(c *api.Command) { c.Pos, c.Ops = 0, many(25) }), api.ErrCommand}, {with(api.CReset, func(c *api.Command) { c.Pos = most }), api.OK},
		{with(api.CGroup, func(c *api.Command) { c.Pos = 0 }), api.ErrGroup}, {with(api.CGroup, func(c *api.Command) { c.Pos = 13 }), api.ErrGroup}, {with(api.CGroup, func(c *api.Command) { c.Pos = 1 }), api.OK}, {with(api.CGroup, func(c *api.Command) { c.View.Name = "G" }), api.ErrGroup}, {with(api.CGroup, func(c *api.Command) { c.Filter = deep }), api.ErrDeep}, {with(api.CGroup, func(c *api.Command) { c.Filter, c.View.Name = deep, "" }), api.ErrGroup}, {with(api.CGroup, func(c *api.Command) { c.Filter = api.Filter{} }), api.OK},
		{with(api.CJoin, func(c *api.Command) { c.View.Name = "" }), api.ErrGroup}, {with(api.CLeave, func(c *api.Command) { c.View.Name = "a1" }), api.ErrGroup}, {with(api.CCommit, func(c *api.Command) { c.View.Name = "abcdefghi" }), api.ErrGroup}, {with(api.CGone, func(c *api.Command) { c.View.Name = "é" }), api.ErrGroup}, {with(api.CGone, func(c *api.Command) { c.View.Name = "abcdefgh" }), api.OK},
		{with(api.CLeave, func(c *api.Command) { c.Sub = 0 }), api.OK}, {with(api.CCommit, func(c *api.Command) { c.Sub, c.From, c.Part, c.Pos = 0, 0, 0, 0 }), api.OK}, {with(api.CCommit, func(c *api.Command) { c.Sub, c.From, c.Part, c.Pos = most, most, most, most }), api.OK},
		{with(api.CWrite, func(c *api.Command) { c.Ops, c.Sub = nil, 1 }), api.ErrCommand}, {with(api.CDrop, func(c *api.Command) { c.View.Name, c.Session = "", 0 }), api.ErrCommand}, {with(api.CSub, func(c *api.Command) { c.Filter, c.Seq = deep, 0 }), api.ErrCommand}, {with(api.CJoin, func(c *api.Command) { c.View = api.View{Kind: 1} }), api.ErrCommand},
	} {
		checks(t, x.c, x.want)
	}
}

// fat is a batch of just so many bytes.
func fat(t *testing.T, size int) api.Command {
	t.Helper()
	c := api.Command{Kind: api.CApply, Pos: 1}
	for range 32 {
		c.Ops = append(c.Ops, put(strings.Repeat("\U0001F600", 24), "x"))
	}
	for _, piece := range []string{"\U0001F600", "x"} {
		for i := range c.Ops {
			for len(modelPut(c))+len(piece) <= size && utf8.RuneCountInString(c.Ops[i].Value) < 48 {
				c.Ops[i].Value += piece
			}
		}
	}
	if len(modelPut(c)) != size {
		t.Fatalf("%d bytes, not %d", len(modelPut(c)), size)
	}
	return c
}

// P15.1
func TestLongCommands(t *testing.T) {
	whole := fat(t, api.MaxData)
	checks(t, whole, api.OK)
	m := New()
	if got := m.Apply(1, modelPut(whole)); got != (api.Reply{N: 1}) {
		t.Error(got)
	}
	more := fat(t, api.MaxData+1)
	if b, e := Put(more); len(b) != 0 || e != api.ErrLong || Check(more) != api.OK {
		t.Error(len(b), e)
	}
	if c, e := Get(modelPut(more)); !zero(reflect.ValueOf(c)) || e != api.ErrCommand {
		t.Error(e)
	}
	if got := m.Apply(2, modelPut(more)); got != (api.Reply{Err: api.ErrCommand}) || m.At() != 2 || m.Mark() != 1 {
		t.Error(got)
	}
	more.Ops[0].Key = ""
	if b, e := Put(more); len(b) != 0 || e != api.ErrKey {
		t.Error(len(b), e)
	}
}

// P15.1
func TestBytesThatAreNoCommand(t *testing.T) {
	for _, c := range each() {
		b := modelPut(c)
		for n := range b {
			if got, e := Get(b[:n]); e != api.ErrCommand || !zero(reflect.ValueOf(got)) {
				t.Errorf("%v cut off at %d: %v %d", c, n, got, e)
			}
		}
		if got, e := Get(append(slices.Clone(b), 0)); e != api.ErrCommand || !zero(reflect.ValueOf(got)) {
			t.Errorf("%v and something: %v %d", c, got, e)
		}
	}
	for _, b := range [][]byte{nil, {}, make([]byte, api.MaxData), make([]byte, api.MaxData+1), make([]byte, 1<<20)} {
		if got, e := Get(b); e != api.ErrCommand || !zero(reflect.ValueOf(got)) {
			t.Error(len(b), got, e)
		}
	}
	if _, e := Get(make([]byte, 19)); e != api.OK {
		t.Error("noughts are a CNone:", e)
	}
}

// P15.1: what is read, put again, is what was read.
func TestOtherBytes(t *testing.T) {
	r := rand.New(rand.NewSource(3))
	good := 0
	for range 60000 {
		b := modelPut(one(r, each()...))
		for range 1 + r.Intn(2) {
			b[r.Intn(len(b))] = byte(r.Intn(6))
		}
		c, e := Get(b)
		if e != api.OK {
			if e != api.ErrCommand || !zero(reflect.ValueOf(c)) {
				t.Fatal(c, e)
			}
			continue
		}
		good++
		if again, e := Put(c); e != api.OK || !bytes.Equal(again, b) {
			t.Fatalf("%x: %x %d", b, again, e)
		}
	}
	if good < 1000 {
		t.Error(good)
	}
}

// What is handed in is not changed and not kept; what comes out is new.
func TestMemoryOfCommands(t *testing.T) {
	for i, c := range each() {
		b, _ := Put(c)
		was := slices.Clone(b)
		got, _ := Get(b)
		clear(b[:cap(b)])
		if !bytes.Equal(modelPut(got), was) || !bytes.Equal(modelPut(c), was) {
			t.Errorf("%v, not %v", got, c)
		}
		clear(got.Ops[:cap(got.Ops)])
		clear(got.Roster.Voters[:cap(got.Roster.Voters)])
		if !bytes.Equal(modelPut(c), was) || !bytes.Equal(modelPut(each()[i]), was) {
			t.Errorf("%v was changed", c)
		}
	}
}
