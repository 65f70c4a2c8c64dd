package node

import (
	"bytes"
	"fmt"
	"math"
	"reflect"
	"testing"

	"tidemark/api"
	"tidemark/disk"
	"tidemark/machine"
	"tidemark/pack"
	"tidemark/save"
	"tidemark/wire"
)

func of(voters []int, learners ...int) api.Roster {
	return api.Roster{Voters: voters, Learners: learners}
}

func some(l ...int) []int { return l }

func put(c api.Command) []byte {
	b, e := machine.Put(c)
	if e != api.OK {
		panic(e)
	}
	return b
}

func entry(index, term int, c api.Command) api.Entry {
	return api.Entry{Index: index, Term: term, Data: put(c)}
}

// opens is a command of which each changes what a machine tells.
var opens = api.Command{Kind: api.COpen}

// opened are entries of one term from an index on.
func opened(index, n, term int) []api.Entry {
	var l []api.Entry
	for i := range n {
		l = append(l, entry(index+i, term, opens))
	}
	return l
}

// imageAt is the image of a machine behind so many entries.
func imageAt(n int) []byte {
	m := machine.New()
	for _, e := range opened(1, n, 1) {
		m.Apply(e.Index, e.Data)
	}
	return m.Image()
}

// baseAt is the base of such a machine.
func baseAt(n, term int) api.Base {
	return api.Base{Index: n, Term: term, Roster: of(some(1, 2), 0), Data: pack.Pack(imageAt(n))}
}

func ok(t *testing.T, l ...api.Errno) {
	t.Helper()
	for i, e := range l {
		if e != api.OK {
			t.Fatalf("call %d: %d", i, e)
		}
	}
}

func empty(t *testing.T, room int) *disk.Disk {
	t.Helper()
	d, e := disk.New(room)
	ok(t, e)
	return d
}

// kept is a disk on which a hard state, a base (perhaps none) and rows are kept.
func kept(t *testing.T, h api.Hard, b api.Base, l ...api.Entry) *disk.Disk {
	t.Helper()
	d := empty(t, api.MaxRoom)
	s, e := save.Open(d)
	ok(t, e, s.SetHard(h))
	if b.Index > 0 {
		ok(t, s.Rebase(b))
	}
	ok(t, s.Add(l...), s.Sync())
	return d
}

func open(t *testing.T, id int, d *disk.Disk, first api.Roster) *Node {
	t.Helper()
	n, e := Open(id, d, first, 1)
	ok(t, e)
	return n
}

// tidy tells empty lists and none alike.
func tidy[T any](v T) T {
	tidyIn(reflect.ValueOf(&v).Elem())
	return v
}

func tidyIn(v reflect.Value) {
	switch v.Kind() {
	case reflect.Struct:
		for i := range v.NumField() {
			tidyIn(v.Field(i))
		}
	case reflect.Slice:
		if v.Len() == 0 {
			v.SetZero()
			return
		}
		c := reflect.MakeSlice(v.Type(), v.Len(), v.Len())
		reflect.Copy(c, v)
		v.Set(c)
		for i := range v.Len() {
			tidyIn(v.Index(i))
		}
	case reflect.Array:
		for i := range v.Len() {
			tidyIn(v.Index(i))
		}
	}
}

func alike[T any](a, b T) bool { return reflect.DeepEqual(tidy(a), tidy(b)) }

// same fails unless two things are alike.
func same[T any](t *testing.T, what string, got, want T) {
	t.Helper()
	if !alike(got, want) {
		t.Fatalf("%s: %s, not %s", what, show(got), show(want))
	}
}

func show(v any) string {
	s := fmt.Sprintf("%+v", v)
	return s[:min(len(s), 2000)]
}

// lies is all bytes of a disk.
func lies(t *testing.T, d *disk.Disk) [3]string {
	t.Helper()
	a, e := d.Look(0)
	b, e1 := d.Look(1)
	c, e2 := d.Tape()
	ok(t, e, e1, e2)
	return [3]string{string(a), string(b), string(c)}
}

func tick(timeout int) api.Input { return api.Input{Kind: api.ITick, Timeout: timeout} }

func heard(m api.Msg) api.Input { return api.Input{Kind: api.IMsg, Msg: m} }

// The document's example.
func TestExample(t *testing.T) {
	n := open(t, 0, empty(t, 1<<22), of(some(0)))
	same(t, "alone", n.Do(tick(5)), api.Done{Answers: []api.Answer{{Index: 1, Term: 1}}})
	n = open(t, 0, empty(t, 1<<22), of(some(0, 1)))
	same(t, "two", n.Do(tick(5)), api.Done{Send: []api.Msg{{Kind: api.MAsk, To: 1, Term: 1}}})
	n.Do(heard(api.Msg{Kind: api.MGrant, From: 1, Term: 1, Yes: true}))
	n.Do(heard(api.Msg{Kind: api.MVoted, From: 1, Term: 1, Yes: true}))
	if s := n.State(); s.Role != api.Leading || s.Commit != 0 {
		t.Fatal(s)
	}
	same(t, "committed", n.Do(heard(api.Msg{Kind: api.MDone, From: 1, Term: 1, Index: 1, Yes: true})), api.Done{Answers: []api.Answer{{Index: 1, Term: 1}}})
}

// P20.1: of an empty disk.
func TestOpenEmpty(t *testing.T) {
	for id := range api.MaxNodes {
		for _, first := range []api.Roster{{}, of(some(0, 1, 2)), of(some(4), 3, 1)} {
			for timeout, want := range map[int]int{math.MinInt: 1, -1: 1, 0: 1, 1: 1, 7: 7, math.MaxInt: math.MaxInt} {
				n, e := Open(id, empty(t, 1<<22), first, timeout)
				ok(t, e)
				same(t, "state", n.State(), api.State{ID: id, Base: api.Base{Roster: first}, Timeout: want})
				same(t, "machine", n.Machine().Image(), machine.New().Image())
			}
		}
	}
}

// P20.1: what lies there is what it has; the first roster is of no account where a base is.
func TestOpenKept(t *testing.T) {
	h, first := api.Hard{Term: 9, Vote: 3}, of(some(3, 4))
	rows := opened(1, 3, 2)
	n := open(t, 2, kept(t, h, api.Base{}, rows...), first)
	same(t, "rows", n.State(), api.State{ID: 2, Hard: h, Base: api.Base{Roster: first}, Rows: rows, Timeout: 1})
	same(t, "nothing done", n.Machine().Image(), imageAt(0))
	b := baseAt(4, 2)
	rows = opened(5, 2, 7)
	n = open(t, 2, kept(t, h, b, rows...), first)
	same(t, "base", n.State(), api.State{ID: 2, Hard: h, Base: b, Rows: rows, Commit: 4, Timeout: 1})
	same(t, "loaded", n.Machine().Image(), imageAt(4))
	b.Roster = api.Roster{}
	n = open(t, 2, kept(t, h, b), first)
	same(t, "nobody", n.State().Base.Roster, api.Roster{})
}

// slot is a slot's bytes of the generation 1, with a base of the index 0.
func slot(term int, b api.Base) []byte {
	p := wire.Numbers(nil, 1, 1, term, 0, b.Index, b.Term, len(b.Data), 0)
	for _, l := range [][]int{b.Roster.Voters, b.Roster.Learners} {
		p = wire.Numbers(wire.Number(p, len(l)), l...)
	}
	out, _ := wire.Frame(p)
	if len(b.Data) > 0 {
		f, _ := wire.Frame(wire.Text(wire.Number(nil, 2), string(b.Data)))
		out = append(out, f...)
	}
	f, _ := wire.Frame(wire.Number(nil, 4))
	return append(out, f...)
}

// P20.1: a base of the index 0 is no machine's; only one that is zero has the first roster.
func TestOpenIndexZero(t *testing.T) {
	first := of(some(3, 4))
	for _, b := range []api.Base{{}, {Term: 1}, {Data: []byte("no pack")}, {Roster: of(some(1))}, {Roster: of(some(1), 2)}} {
		d := empty(t, api.MaxRoom)
		ok(t, d.Slot(0, slot(1, b)), d.Sync())
		n := open(t, 3, d, first)
		want := b
		if alike(b, api.Base{}) {
			want.Roster = first
		}
		same(t, "base", n.State().Base, want)
		same(t, "machine", n.Machine().Image(), imageAt(0))
	}
}

// P20.1: nil, and save's error.
func TestOpenNoDisk(t *testing.T) {
	down := empty(t, 1000)
	ok(t, down.Crash(0, 0))
	armed := empty(t, 1000)
	ok(t, armed.Arm(2, 0, 0))
	for i, c := range []struct {
		d    *disk.Disk
		want api.Errno
	}{{nil, api.ErrNil}, {&disk.Disk{}, api.ErrNil}, {down, api.ErrDown}, {armed, api.ErrDown}, {empty(t, 5), api.ErrFull}} {
		for _, id := range []int{0, 9} { // the disk's error comes first
			if n, e := Open(id, c.d, of(some(1, 1)), 1); n != nil || e != c.want {
				t.Error(i, n, e)
			}
		}
	}
}

// P20.1: ErrSave
func TestOpenRefused(t *testing.T) {
	h, good := api.Hard{Term: 9}, baseAt(4, 2)
	with := func(change func(b *api.Base)) *disk.Disk {
		b := good
		change(&b)
		return kept(t, h, b)
	}
	data := func(image []byte) *disk.Disk { return with(func(b *api.Base) { b.Data = pack.Pack(image) }) }
	image := imageAt(4)
	bad := map[string]*disk.Disk{
		"no data":            with(func(b *api.Base) { b.Data = nil }),
		"no pack":            with(func(b *api.Base) { b.Data = []byte("no pack") }),
		"not packed":         with(func(b *api.Base) { b.Data = image }),
		"more than the pack": with(func(b *api.Base) { b.Data = append(bytes.Clone(b.Data), 0) }),
		"an empty pack":      data(nil),
		"too much packed":    data(make([]byte, api.MaxImage+1)),
		"no image":           data([]byte("no image")),
		"more than an image": data(append(bytes.Clone(image), 0)),
		"less than an image": data(image[:len(image)-1]),
		"an earlier image":   data(imageAt(3)),
		"a later image":      data(imageAt(5)),
		"a new machine's":    data(imageAt(0)),
		"a voter twice":      with(func(b *api.Base) { b.Roster = of(some(1, 1)) }),
		"only learners":      with(func(b *api.Base) { b.Roster = of(nil, 1) }),
		"a base above":       kept(t, api.Hard{Term: 1}, good, opened(5, 1, 2)...),
		"rows above":         kept(t, api.Hard{Term: 1}, api.Base{}, opened(1, 2, 2)...),
		"terms that fall":    kept(t, h, api.Base{}, opened(1, 1, 3)[0], opened(2, 1, 2)[0]),
		"below the base":     kept(t, h, good, opened(5, 1, 1)...),
	}
	for name, d := range bad {
		if n, e := Open(1, d, of(some(1)), 1); n != nil || e != api.ErrSave {
			t.Error(name, n, e)
		}
	}
	for _, id := range []int{-1, 5, math.MinInt, math.MaxInt} {
		if n, e := Open(id, kept(t, h, good), of(some(1)), 1); n != nil || e != api.ErrSave {
			t.Error(id, n, e)
		}
	}
	for _, first := range []api.Roster{of(some(1, 1)), of(some(5)), of(some(-1)), of(nil, 1), of(some(1), 1), of(some(0, 1, 2, 3, 4, 0))} {
		if n, e := Open(1, empty(t, 1<<22), first, 1); n != nil || e != api.ErrSave {
			t.Error(first, n, e)
		}
		open(t, 1, kept(t, h, good), first) // it is of no account here
	}
}

// P20.3: of one that Open did not make.
func TestPlainNodes(t *testing.T) {
	for _, n := range []*Node{nil, {}, new(Node)} {
		for _, in := range []api.Input{{}, tick(1), {Kind: api.IPack}, {Kind: 99}, heard(api.Msg{})} {
			same(t, "done", n.Do(in), api.Done{Err: api.ErrNil})
		}
		same(t, "state", n.State(), api.State{})
		if n.Machine() != nil {
			t.Error("a machine")
		}
	}
}

// P20.3: what State tells, and no more.
func TestState(t *testing.T) {
	b := baseAt(4, 2)
	b.Roster = of(some(0, 1, 2), 3)
	n := open(t, 0, kept(t, api.Hard{Term: 5, Vote: 2}, b, opened(5, 2, 5)...), api.Roster{})
	n.Do(tick(6))
	for from := 1; from < 3; from++ {
		n.Do(heard(api.Msg{Kind: api.MGrant, From: from, Term: 6, Yes: true}))
		n.Do(heard(api.Msg{Kind: api.MVoted, From: from, Term: 6, Yes: true}))
	}
	n.Do(heard(api.Msg{Kind: api.MDone, From: 2, Term: 6, Index: 7, Yes: true}))
	n.Do(api.Input{Kind: api.IRead, ID: 8}) // looks and rounds are not told
	n.Do(tick(9))
	rows := append(opened(5, 2, 5), entry(7, 6, api.Command{}))
	want := api.State{ID: 0, Hard: api.Hard{Term: 6, Vote: 1}, Base: b, Rows: rows, Role: api.Leading, Leader: 1, Commit: 7, Timer: 1, Timeout: 6}
	same(t, "leading", n.State(), want)
	if n.Machine().At() != 7 || n.Machine() != n.Machine() {
		t.Error("its machine")
	}
	f, e := Open(1, kept(t, api.Hard{Term: 5}, b), api.Roster{}, 9)
	ok(t, e)
	f.Do(heard(api.Msg{Kind: api.MPart, From: 0, To: 1, Term: 6, Index: 9, Base: api.Base{Index: 9, Term: 5, Data: []byte("begun")}}))
	f.Do(tick(1))
	same(t, "following", f.State(), api.State{ID: 1, Hard: api.Hard{Term: 6}, Base: b, Leader: 1, Commit: 4, Timer: 1, Timeout: 9})
}
