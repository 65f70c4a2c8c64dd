package disk

import (
	"math/rand"
	"slices"
	"strings"
	"testing"

	"tidemark/api"
)

// picture is what lies on a disk.
type picture struct {
	slots [2]string
	tape  string
}

func (p picture) size() int { return len(p.slots[0]) + len(p.slots[1]) + len(p.tape) }

// change is an act that waits, as the test did it: kind 's', 'a' or 'c'.
type change struct {
	kind byte
	slot int
	s    string
}

func (p picture) with(c change) picture {
	switch c.kind {
	case 's':
		p.slots[c.slot] = c.s
	case 'a':
		p.tape += c.s
	case 'c':
		p.tape = ""
	}
	return p
}

// model is what a disk is to be.
type model struct {
	room             int
	on               bool
	told, lasts      picture
	waits            []change
	left, keep, tear int
}

func (m *model) crash(keep, tear int) {
	if keep < 0 {
		keep = 0
	}
	for i, c := range m.waits {
		if i < keep {
			m.lasts = m.lasts.with(c)
		}
		if i == keep && tear > 0 && c.kind != 'c' {
			if tear < len(c.s) {
				c.s = c.s[:tear]
			}
			m.lasts = m.lasts.with(c)
		}
	}
	m.told, m.waits, m.on, m.left = m.lasts, nil, false, 0
}

// acted is what an act that was done answers.
func (m *model) acted() api.Errno {
	if m.left > 0 {
		m.left--
		if m.left == 0 {
			m.crash(m.keep, m.tear)
			return api.ErrDown
		}
	}
	return api.OK
}

func (m *model) change(c change) api.Errno {
	if !m.on {
		return api.ErrDown
	}
	if c.kind == 's' && c.slot != 0 && c.slot != 1 {
		return api.ErrSlot
	}
	next := m.told.with(c)
	if next.size() > m.room {
		return api.ErrFull
	}
	m.told = next
	m.waits = append(m.waits, c)
	return m.acted()
}

func (m *model) sync() api.Errno {
	if !m.on {
		return api.ErrDown
	}
	m.lasts, m.waits = m.told, nil
	return m.acted()
}

func (m *model) clone() *model {
	out := *m
	out.waits = slices.Clone(m.waits)
	return &out
}

// newDisk is one with so much room.
func newDisk(t *testing.T, room int) *Disk {
	t.Helper()
	d, e := New(room)
	if d == nil || e != api.OK {
		t.Fatalf("New(%d): %d", room, e)
	}
	return d
}

// see is what lies on a disk that has power.
func see(t *testing.T, d *Disk) picture {
	t.Helper()
	var p picture
	for i := range p.slots {
		b, e := d.Look(i)
		if e != api.OK {
			t.Fatalf("Look(%d): %d", i, e)
		}
		p.slots[i] = string(b)
	}
	b, e := d.Tape()
	if e != api.OK {
		t.Fatalf("Tape: %d", e)
	}
	p.tape = string(b)
	return p
}

// same holds that a disk is what a model is.
func same(t *testing.T, d *Disk, m *model) {
	t.Helper()
	if n := d.Used(); n != m.told.size() || n > m.room {
		t.Fatalf("Used: %d, not %d of %d", n, m.told.size(), m.room)
	}
	if m.on {
		if p := see(t, d); p != m.told {
			t.Fatalf("%q, not %q", p, m.told)
		}
		return
	}
	for i := range m.told.slots {
		if b, e := d.Look(i); e != api.ErrDown || len(b) != 0 {
			t.Fatalf("Look without power: %q %d", b, e)
		}
	}
	if b, e := d.Tape(); e != api.ErrDown || len(b) != 0 {
		t.Fatalf("Tape without power: %q %d", b, e)
	}
}

// ok holds that a call had no error.
func ok(t *testing.T, l ...api.Errno) {
	t.Helper()
	for i, e := range l {
		if e != api.OK {
			t.Fatalf("call %d: %d", i, e)
		}
	}
}

// someStep does one random thing to a disk and its model, and holds that both answer alike.
func someStep(t *testing.T, r *rand.Rand, d *Disk, m *model) {
	t.Helper()
	s := strings.Repeat(string(rune('a'+r.Intn(26))), r.Intn(8))
	slot := r.Intn(2)
	n, keep, tear := r.Intn(5), r.Intn(7)-1, r.Intn(9)-1
	var got, want api.Errno
	switch k := r.Intn(20); {
	case k < 5:
		got, want = d.Slot(slot, []byte(s)), m.change(change{'s', slot, s})
	case k < 11:
		got, want = d.Append([]byte(s)), m.change(change{'a', 0, s})
	case k < 13:
		got, want = d.Clear(), m.change(change{kind: 'c'})
	case k < 15:
		got, want = d.Sync(), m.sync()
	case k == 15:
		got = d.Crash(keep, tear)
		if m.on {
			m.crash(keep, tear)
		} else {
			want = api.ErrDown
		}
	case k == 16:
		got = d.Arm(n, keep, tear)
		if m.on {
			m.left, m.keep, m.tear = n, keep, tear
		} else {
			want = api.ErrDown
		}
	case k < 19:
		got = d.Start()
		m.on = true
	default:
		got, want = d.Slot(2+n, []byte(s)), m.change(change{'s', 2 + n, s})
	}
	if got != want {
		t.Fatalf("%d, not %d", got, want)
	}
	same(t, d, m)
}
