package disk

import (
	"bytes"
	"math"
	"math/rand"
	"strings"
	"testing"

	"tidemark/api"
)

// P4.1
func TestNewHasRoom(t *testing.T) {
	for _, room := range []int{1, 2, api.MaxRoom - 1, api.MaxRoom} {
		d := newDisk(t, room)
		if d.Used() != 0 || see(t, d) != (picture{}) {
			t.Errorf("New(%d) is not empty", room)
		}
		ok(t, d.Append(make([]byte, room)), d.Sync())
		if e := d.Append([]byte{1}); e != api.ErrFull || d.Used() != room {
			t.Errorf("New(%d): one byte more: %d", room, e)
		}
	}
	for _, room := range []int{math.MinInt, -1, 0, api.MaxRoom + 1, math.MaxInt} {
		if d, e := New(room); d != nil || e != api.ErrArg {
			t.Errorf("New(%d): %d", room, e)
		}
	}
}

// P4.1
func TestActsAreTold(t *testing.T) {
	d := newDisk(t, 100)
	ok(t, d.Slot(0, []byte("one")), d.Slot(1, []byte("two")), d.Append([]byte("ab")), d.Append(nil), d.Append([]byte("cd")))
	if p := see(t, d); p != (picture{[2]string{"one", "two"}, "abcd"}) || d.Used() != 10 {
		t.Errorf("%q, %d", p, d.Used())
	}
	ok(t, d.Slot(0, []byte("x")), d.Slot(1, nil), d.Clear())
	if p := see(t, d); p != (picture{[2]string{"x", ""}, ""}) || d.Used() != 1 {
		t.Errorf("%q, %d", p, d.Used())
	}
	ok(t, d.Append([]byte("e")), d.Sync(), d.Append([]byte("f")))
	if p := see(t, d); p.tape != "ef" || d.Used() != 3 {
		t.Errorf("%q, %d", p, d.Used())
	}
}

// P4.1
func TestNoSuchSlot(t *testing.T) {
	d := newDisk(t, 2)
	for _, i := range []int{math.MinInt, -1, 2, 3, math.MaxInt} {
		if e := d.Slot(i, []byte("abc")); e != api.ErrSlot {
			t.Errorf("Slot(%d): %d", i, e)
		}
		if b, e := d.Look(i); e != api.ErrSlot || len(b) != 0 {
			t.Errorf("Look(%d): %q %d", i, b, e)
		}
	}
	ok(t, d.Crash(0, 0))
	if e := d.Slot(2, nil); e != api.ErrDown {
		t.Errorf("Slot without power: %d", e)
	}
	if _, e := d.Look(2); e != api.ErrDown {
		t.Errorf("Look without power: %d", e)
	}
}

// P4.1, P4.6: what lies in a slot makes room for what comes in its place.
func TestFull(t *testing.T) {
	d := newDisk(t, 10)
	ok(t, d.Slot(0, []byte("1234")), d.Slot(1, []byte("123")), d.Append([]byte("123")))
	refused := []api.Errno{d.Append([]byte("1")), d.Slot(0, []byte("12345")), d.Slot(1, []byte("1234")), d.Slot(0, make([]byte, api.MaxRoom+1))}
	for i, e := range refused {
		if e != api.ErrFull {
			t.Errorf("call %d: %d", i, e)
		}
	}
	if p := see(t, d); p != (picture{[2]string{"1234", "123"}, "123"}) || d.Used() != 10 {
		t.Errorf("%q", p)
	}
	ok(t, d.Append(nil), d.Slot(0, []byte("abcd")), d.Slot(1, []byte("ab")), d.Append([]byte("4")))
	if e := d.Append([]byte("5")); e != api.ErrFull {
		t.Error(e)
	}
	ok(t, d.Clear(), d.Append([]byte("wxyz")))
	if p := see(t, d); p != (picture{[2]string{"abcd", "ab"}, "wxyz"}) {
		t.Errorf("%q", p)
	}
	ok(t, d.Crash(99, 0), d.Start())
	if p := see(t, d); p != (picture{[2]string{"abcd", "ab"}, "wxyz"}) || d.Used() != 10 {
		t.Errorf("%q: what was refused waits", p)
	}
}

// P4.1, P4.2: without power only Used, Start and Clone do anything.
func TestWithoutPower(t *testing.T) {
	d := newDisk(t, 10)
	ok(t, d.Append([]byte("ab")), d.Sync(), d.Crash(0, 0))
	refused := []api.Errno{d.Slot(0, nil), d.Slot(9, nil), d.Append(nil), d.Append(make([]byte, 11)), d.Clear(), d.Sync(), d.Crash(0, 0), d.Arm(1, 0, 0), d.Arm(-1, 0, 0)}
	for i, e := range refused {
		if e != api.ErrDown {
			t.Errorf("call %d: %d", i, e)
		}
	}
	if _, e := d.Tape(); e != api.ErrDown || d.Used() != 2 {
		t.Error(e, d.Used())
	}
	ok(t, d.Start())
	if p := see(t, d); p.tape != "ab" {
		t.Errorf("%q", p)
	}
	ok(t, d.Append([]byte("c")), d.Start(), d.Sync())
	if p := see(t, d); p.tape != "abc" {
		t.Errorf("%q", p)
	}
}

// P4.2: the chapter's examples.
func TestExamples(t *testing.T) {
	d := newDisk(t, 100)
	ok(t, d.Append([]byte("ab")), d.Sync(), d.Append([]byte("cd")), d.Crash(0, 1), d.Start())
	if p := see(t, d); p.tape != "abc" {
		t.Errorf("%q", p)
	}
	ok(t, d.Slot(0, []byte("xyz")), d.Crash(0, 2), d.Start())
	if p := see(t, d); p.slots[0] != "xy" {
		t.Errorf("%q", p)
	}
}

// P4.2: each number of acts, and of bytes, that last.
func TestCrashKeepsAndTears(t *testing.T) {
	was := picture{[2]string{"old", "older"}, "tape"}
	waits := []change{{'a', 0, "12"}, {'s', 0, "new"}, {'c', 0, ""}, {'a', 0, ""}, {'s', 1, ""}, {'a', 0, "345"}, {'s', 1, "xy"}}
	edges := []int{math.MinInt, -2, -1, 0, 1, 2, 3, 4, 5, 6, 7, 8, math.MaxInt}
	for _, keep := range edges {
		for _, tear := range edges {
			d := newDisk(t, 50)
			ok(t, d.Slot(0, []byte(was.slots[0])), d.Slot(1, []byte(was.slots[1])), d.Append([]byte(was.tape)), d.Sync())
			for _, c := range waits {
				switch c.kind {
				case 's':
					ok(t, d.Slot(c.slot, []byte(c.s)))
				case 'a':
					ok(t, d.Append([]byte(c.s)))
				default:
					ok(t, d.Clear())
				}
			}
			m := &model{room: 50, on: true, lasts: was, waits: waits}
			m.crash(keep, tear)
			ok(t, d.Crash(keep, tear))
			if d.Used() != m.told.size() {
				t.Fatalf("%d, %d: Used %d", keep, tear, d.Used())
			}
			for range 2 {
				ok(t, d.Start())
				if p := see(t, d); p != m.told {
					t.Fatalf("%d, %d: %q, not %q", keep, tear, p, m.told)
				}
				// What is told behind a crash lasts, and nothing waits.
				ok(t, d.Crash(0, 0))
			}
		}
	}
}

// P4.2: a Slot that is torn leaves nothing of what was; one of which nothing was done leaves all.
func TestTornSlot(t *testing.T) {
	for tear, want := range map[int]string{-1: "0123456789", 0: "0123456789", 1: "a", 2: "ab", 3: "abc", 4: "abc", math.MaxInt: "abc"} {
		d := newDisk(t, 20)
		ok(t, d.Slot(1, []byte("0123456789")), d.Sync(), d.Slot(1, []byte("abc")), d.Crash(0, tear), d.Start())
		if p := see(t, d); p.slots[1] != want {
			t.Errorf("%d bytes: %q", tear, p.slots[1])
		}
	}
	d := newDisk(t, 20)
	ok(t, d.Slot(1, []byte("0123456789")), d.Sync(), d.Slot(1, nil), d.Crash(0, 1), d.Start())
	if p := see(t, d); p.slots[1] != "" {
		t.Errorf("an empty one: %q", p.slots[1])
	}
	ok(t, d.Append([]byte("tape")), d.Sync(), d.Clear(), d.Crash(0, math.MaxInt), d.Start())
	if p := see(t, d); p.tape != "tape" {
		t.Errorf("a Clear: %q", p.tape)
	}
}

// P4.3
func TestFuseGoesBehindTheActsThatWereDone(t *testing.T) {
	d := newDisk(t, 6)
	ok(t, d.Arm(3, 1, 1), d.Append([]byte("ab")))
	if d.Slot(2, nil) != api.ErrSlot || d.Append(make([]byte, 7)) != api.ErrFull || d.Slot(0, make([]byte, 5)) != api.ErrFull {
		t.Fatal("refused")
	}
	see(t, d)
	ok(t, d.Slot(0, []byte("xy")))
	if e := d.Clear(); e != api.ErrDown || d.Used() != 3 {
		t.Fatal("the third act", e, d.Used())
	}
	if e := d.Sync(); e != api.ErrDown {
		t.Fatal(e)
	}
	ok(t, d.Start())
	if p := see(t, d); p != (picture{[2]string{"x", ""}, "ab"}) {
		t.Errorf("%q", p)
	}
	for range 9 {
		ok(t, d.Slot(0, nil), d.Sync())
	}
}

// P4.3: a Sync is an act, too; what it made last does.
func TestFuseAtASync(t *testing.T) {
	d := newDisk(t, 9)
	ok(t, d.Append([]byte("ab")), d.Arm(1, 0, 0))
	if e := d.Sync(); e != api.ErrDown {
		t.Fatal(e)
	}
	ok(t, d.Start())
	if p := see(t, d); p.tape != "ab" {
		t.Errorf("%q", p)
	}
	ok(t, d.Arm(2, 5, 0), d.Sync())
	if e := d.Append([]byte("c")); e != api.ErrDown {
		t.Fatal(e)
	}
	ok(t, d.Start())
	if p := see(t, d); p.tape != "abc" {
		t.Errorf("%q", p)
	}
}

// P4.3
func TestFuseIsPutOut(t *testing.T) {
	d := newDisk(t, 9)
	ok(t, d.Arm(1, 0, 0), d.Arm(0, 0, 0), d.Append([]byte("a")), d.Sync(), d.Append([]byte("b")))
	if e := d.Arm(-1, 0, 0); e != api.ErrArg {
		t.Fatal(e)
	}
	ok(t, d.Arm(1, 0, 0), d.Arm(2, 0, 0), d.Sync(), d.Arm(math.MaxInt, 0, 0), d.Append([]byte("c")), d.Arm(1, 0, 0))
	if e := d.Arm(math.MinInt, 0, 0); e != api.ErrArg {
		t.Fatal(e)
	}
	if e := d.Append([]byte("d")); e != api.ErrDown {
		t.Fatal("what was refused put the fuse out:", e)
	}
	ok(t, d.Start())
	if p := see(t, d); p.tape != "ab" {
		t.Errorf("%q", p)
	}
	ok(t, d.Arm(1, 0, 0), d.Crash(0, 0), d.Start(), d.Sync(), d.Append([]byte("e")))
	if p := see(t, d); p.tape != "abe" {
		t.Errorf("a crash leaves the fuse: %q", p)
	}
}

// P4.3
func TestCloneKnowsNothingOfTheFirst(t *testing.T) {
	r := rand.New(rand.NewSource(1))
	for range 400 {
		room := 1 + r.Intn(40)
		d, m := newDisk(t, room), &model{room: room, on: true}
		for range r.Intn(30) {
			someStep(t, r, d, m)
		}
		other, like := d.Clone(), m.clone()
		same(t, other, like)
		for range 30 {
			if r.Intn(2) == 0 {
				someStep(t, r, d, m)
			} else {
				someStep(t, r, other, like)
			}
			same(t, d, m)
			same(t, other, like)
		}
	}
	var none *Disk
	if none.Clone() != nil || (&Disk{}).Clone() != nil {
		t.Error("Clone of none")
	}
}

// P4.1, P4.2, P4.3: long random lives, held against the model.
func TestRandomLives(t *testing.T) {
	r := rand.New(rand.NewSource(2))
	for range 300 {
		room := 1 + r.Intn(60)
		d, m := newDisk(t, room), &model{room: room, on: true}
		for range 200 {
			someStep(t, r, d, m)
		}
	}
}

// P4.4
func TestWhatWasSyncedLasts(t *testing.T) {
	for keep := -1; keep < 6; keep++ {
		for tear := -1; tear < 6; tear++ {
			d := newDisk(t, 50)
			ok(t, d.Slot(0, []byte("zero")), d.Slot(1, []byte("one")), d.Append([]byte("tape")), d.Sync())
			ok(t, d.Slot(1, []byte("other")), d.Append([]byte("more")), d.Slot(1, []byte("third")), d.Crash(keep, tear), d.Start())
			if p := see(t, d); p.slots[0] != "zero" || !strings.HasPrefix(p.tape, "tape") {
				t.Errorf("%d, %d: %q", keep, tear, p)
			}
		}
	}
}

// P4.5, P4.6
func TestBehindACrashTheTapeIsABeginning(t *testing.T) {
	r := rand.New(rand.NewSource(3))
	for range 2000 {
		d := newDisk(t, 30)
		tapes, tape := []string{""}, ""
		for range r.Intn(12) {
			switch r.Intn(5) {
			case 0:
				ok(t, d.Clear())
				tape = ""
			case 1:
				ok(t, d.Sync())
				tapes = nil
			case 2:
				if e := d.Slot(r.Intn(2), make([]byte, r.Intn(9))); e != api.OK && e != api.ErrFull {
					t.Fatal(e)
				}
			default:
				s := strings.Repeat(string(rune('a'+r.Intn(26))), r.Intn(5))
				if d.Append([]byte(s)) == api.OK {
					tape += s
				}
			}
			tapes = append(tapes, tape)
		}
		ok(t, d.Crash(r.Intn(14)-1, r.Intn(7)-1), d.Start())
		got := see(t, d).tape
		found := false
		for _, s := range tapes {
			found = found || strings.HasPrefix(s, got)
		}
		if !found || d.Used() > 30 {
			t.Fatalf("%q is a beginning of none of %q", got, tapes)
		}
	}
}

// What is handed in is neither changed nor kept; what is told is new memory.
func TestMemory(t *testing.T) {
	d := newDisk(t, 100)
	room := []byte("abcdefgh")
	b := room[2:5]
	ok(t, d.Slot(0, b), d.Append(b), d.Append(b), d.Sync(), d.Slot(1, b), d.Append(b))
	if string(room) != "abcdefgh" {
		t.Fatalf("%q", room)
	}
	clear(room)
	want := picture{[2]string{"cde", "cde"}, "cdecdecde"}
	if p := see(t, d); p != want {
		t.Fatalf("%q", p)
	}
	other := d.Clone()
	for range 2 {
		for i := range slots {
			spoil(d.Look(i))
			spoil(other.Look(i))
		}
		spoil(d.Tape())
		spoil(other.Tape())
		if p := see(t, d); p != want {
			t.Fatalf("%q", p)
		}
		if p := see(t, other); p != want {
			t.Fatalf("%q", p)
		}
	}
	ok(t, d.Append([]byte("x")), other.Append([]byte("y")), d.Crash(9, 0), d.Start(), other.Crash(9, 0), other.Start())
	if a, b := see(t, d).tape, see(t, other).tape; a != "cdecdecdex" || b != "cdecdecdey" {
		t.Errorf("%q, %q", a, b)
	}
}

func spoil(b []byte, _ api.Errno) {
	b = b[:cap(b)]
	for i := range b {
		b[i] = '!'
	}
}

// A nil disk, and one that New did not make, is ErrNil ahead of all else.
func TestNilAndPlainDisks(t *testing.T) {
	for _, d := range []*Disk{nil, {}, new(Disk)} {
		_, look := d.Look(5)
		_, tape := d.Tape()
		for i, e := range []api.Errno{look, tape, d.Slot(5, nil), d.Slot(0, nil), d.Append([]byte("a")), d.Clear(), d.Sync(), d.Crash(0, 0), d.Start(), d.Arm(-1, 0, 0), d.Arm(1, 0, 0), d.Sync()} {
			if e != api.ErrNil {
				t.Errorf("call %d: %d", i, e)
			}
		}
		if b, _ := d.Look(0); len(b) != 0 || d.Used() != 0 || d.Clone() != nil {
			t.Error("it has something")
		}
	}
}

// Many small pieces on one tape, with a Sync behind each, cost no more than their bytes.
func TestLongTape(t *testing.T) {
	d := newDisk(t, api.MaxRoom)
	piece := bytes.Repeat([]byte("x"), 64)
	for range api.MaxRoom / len(piece) {
		ok(t, d.Append(piece), d.Sync())
	}
	if e := d.Append([]byte("y")); e != api.ErrFull || d.Used() != api.MaxRoom {
		t.Error(e, d.Used())
	}
}
