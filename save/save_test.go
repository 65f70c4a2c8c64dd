package save

import (
	"bytes"
	"math"
	"math/rand"
	"slices"
	"strconv"
	"strings"
	"testing"

	"tidemark/api"
	"tidemark/disk"
)

const top = api.MaxIndex

// P5.1, the chapter's example: an empty disk is laid anew.
func TestOpenOfAnEmptyDisk(t *testing.T) {
	d := empty(t, 1000)
	s := open(t, d)
	same(t, "nothing", s, model{})
	lies(t, "nothing", d, nil, model{}.slot(1), framed(numbers(5, 1)))
	ok(t, s.SetHard(api.Hard{Term: 2, Vote: 1}), s.Add(entry(1, 1, "a"), entry(2, 1, "b")), s.Cut(2), s.Sync())
	lies(t, "written", d, nil, model{}.slot(1), framed(numbers(5, 1), numbers(6, 2, 1), rowOf(1, 1, "a"), rowOf(2, 1, "b"), numbers(7, 2)))
	same(t, "opened", reopened(t, d, 0), model{hard: api.Hard{Term: 2, Vote: 1}, rows: []api.Entry{entry(1, 1, "a")}})
}

// P5.1: the bytes of a first slot and tape, one by one (the sums are wire's).
func TestFormOfTheFirstSlot(t *testing.T) {
	d := empty(t, 1000)
	open(t, d)
	slot, _ := d.Look(1)
	if want := "\x01\x0c\x01\x01\x01\x01\x00\x00\x00\x00\x00\x00\x00\x00"; !strings.HasPrefix(string(slot), want) || len(slot) != len(want)+4+2+2+4 {
		t.Errorf("%x", slot)
	}
	if tape, _ := d.Tape(); !strings.HasPrefix(string(tape), "\x01\x04\x01\x05\x01\x01") || len(tape) != 10 {
		t.Errorf("%x", tape)
	}
}

// full is a model of some of everything.
func full() model {
	return model{
		hard: api.Hard{Term: 7, Vote: 5},
		base: api.Base{Index: 300, Term: 4, Roster: api.Roster{Voters: []int{4, 0, 0, 1, 3}, Learners: []int{2, 2}}, Data: bytes.Repeat([]byte("base"), 10000)},
		rows: []api.Entry{entry(301, 9, ""), entry(302, 2, "b"), entry(303, top, strings.Repeat("c", api.MaxData))},
	}
}

// P5.1: the slot of the greatest generation tells, of both the first.
func TestGreatestGeneration(t *testing.T) {
	m, other := full(), model{hard: api.Hard{Term: 1}}
	tape := func(gen int) []byte { return framed(numbers(5, gen)) }
	cases := []struct {
		name         string
		slot0, slot1 []byte
		gen          int
		want         model
	}{
		{"the first", m.slot(8), other.slot(7), 8, m},
		{"the second", other.slot(7), m.slot(8), 8, m},
		{"both", m.slot(8), other.slot(8), 8, m},
		{"one", nil, m.slot(1), 1, m},
		{"one that can't be read", m.slot(9)[1:], other.slot(3), 3, other},
		{"one that is far ahead", other.slot(3), m.slot(top), top, m},
		{"one beyond all", m.slot(top + 1), other.slot(3), 3, other},
		{"one of 0", m.slot(0), other.slot(2), 2, other},
	}
	for _, c := range cases {
		d := laid(t, c.slot0, c.slot1, tape(c.gen))
		same(t, c.name, open(t, d), c.want)
		lies(t, c.name, d, c.slot0, c.slot1, tape(c.gen))
	}
}

// P5.1: without a slot that tells anything all is zero, of the generation 0.
func TestNoSlot(t *testing.T) {
	for _, bad := range [][]byte{nil, []byte("none"), full().slot(top + 1), full().slot(0), append(full().slot(5), 1)} {
		for _, tape := range [][]byte{nil, framed(numbers(5, 1), numbers(6, 1, 1)), framed(numbers(6, 1, 1)), []byte("torn")} {
			d := laid(t, bad, []byte("neither"), tape)
			same(t, "nothing", open(t, d), model{})
			lies(t, "nothing", d, bad, model{}.slot(1), framed(numbers(5, 1)))
		}
	}
	// A tape of the generation 0 goes on from there.
	tape := framed(numbers(5, 0), numbers(6, 3, 2))
	d := laid(t, nil, nil, tape)
	same(t, "0", open(t, d), model{hard: api.Hard{Term: 3, Vote: 2}})
	lies(t, "0", d, nil, nil, tape)
}

// P5.1: the tape's records are done one by one.
func TestTapeIsPlayed(t *testing.T) {
	m := full()
	tape := framed(numbers(5, 8), numbers(6, 8, 0), rowOf(304, 1, "d"), numbers(7, 303), rowOf(303, 2, ""), rowOf(304, 1, "e"), numbers(6, top, 5), numbers(7, 304), rowOf(304, top, strings.Repeat("f", api.MaxData)))
	want := m.cut(303).add(entry(303, 2, ""), entry(304, top, strings.Repeat("f", api.MaxData))).setHard(api.Hard{Term: top, Vote: 5})
	d := laid(t, m.slot(8), nil, tape)
	same(t, "played", open(t, d), want)
	lies(t, "played", d, m.slot(8), nil, tape)
	tape = framed(numbers(5, 8), numbers(7, 301), rowOf(301, 1, ""))
	same(t, "all rows go", open(t, laid(t, nil, m.slot(8), tape)), m.cut(301).add(entry(301, 1, "")))
}

// P5.1: up to the first frame that is no record; all is laid anew then.
func TestTapeIsPlayedUpToWhatIsNone(t *testing.T) {
	m := full()
	first := framed(numbers(5, 8), numbers(6, 8, 0))
	behind := framed(numbers(6, 9, 1), rowOf(304, 1, "d"))
	turned := framed(numbers(6, 9, 1))
	turned[2] ^= 4
	cut := framed(rowOf(304, 1, "d"))
	cases := map[string][]byte{
		"a row too far":                 framed(rowOf(305, 1, "")),
		"a row again":                   framed(rowOf(303, 1, "")),
		"row 0":                         framed(rowOf(0, 1, "")),
		"a term of 0":                   framed(rowOf(304, 0, "")),
		"a term beyond":                 framed(rowOf(304, top+1, "")),
		"too much data":                 framed(rowOf(304, 1, strings.Repeat("x", api.MaxData+1))),
		"a row and more":                framed(append(rowOf(304, 1, ""), 0)),
		"half a row":                    framed(numbers(3, 304, 1)),
		"a cut of the base":             framed(numbers(7, 300)),
		"a cut behind":                  framed(numbers(7, 304)),
		"a cut of 0":                    framed(numbers(7, 0)),
		"a cut of nothing":              framed(numbers(7)),
		"a cut and more":                framed(numbers(7, 303, 0)),
		"a vote of 6":                   framed(numbers(6, 9, 6)),
		"a hard state of a term beyond": framed(numbers(6, top+1, 0)),
		"half a hard state":             framed(numbers(6, 9)),
		"a hard state and more":         framed(numbers(6, 9, 1, 0)),
		"the first one again":           framed(numbers(5, 8)),
		"a slot's head":                 framed(numbers(1, 8, 0, 0, 0, 0, 0, 0, 0, 0)),
		"a piece":                       framed(piece("x")),
		"an end":                        framed(numbers(4)),
		"kind 0":                        framed(numbers(0)),
		"kind 8":                        framed(numbers(8)),
		"no kind":                       framed(nil),
		"another form of a number":      framed([]byte{2, 0, 6, 1, 9, 1, 1}),
		"a turned frame":                turned,
		"a cut frame":                   cut[:len(cut)-1],
		"no frame":                      {9},
	}
	want := m.setHard(api.Hard{Term: 8})
	for name, bad := range cases {
		for _, tail := range [][]byte{nil, behind} {
			d := laid(t, m.slot(8), model{}.slot(7), slices.Concat(first, bad, tail))
			same(t, name, open(t, d), want)
			lies(t, name, d, m.slot(8), want.slot(9), framed(numbers(5, 9)))
			same(t, name+" once more", reopened(t, d, 0), want)
		}
	}
}

// P5.1: a tape of another generation, or without a first frame, tells nothing.
func TestTapeOfAnotherTime(t *testing.T) {
	m := full()
	tapes := map[string][]byte{
		"none":         nil,
		"earlier":      framed(numbers(5, 7), numbers(6, 9, 1)),
		"later":        framed(numbers(5, 9), numbers(6, 9, 1)),
		"headless":     framed(numbers(6, 9, 1)),
		"head behind":  framed(numbers(6, 9, 1), numbers(5, 8)),
		"head of more": framed(numbers(5, 8, 0), numbers(6, 9, 1)),
		"half a head":  framed(numbers(5), numbers(6, 9, 1)),
		"another form": framed([]byte{1, 5, 2, 0, 8}, numbers(6, 9, 1)),
		"torn":         framed(numbers(5, 8))[:9],
	}
	for name, tape := range tapes {
		d := laid(t, model{}.slot(7), m.slot(8), tape)
		same(t, name, open(t, d), m)
		lies(t, name, d, m.slot(9), m.slot(8), framed(numbers(5, 9)))
	}
}

// P5.1: bytes that are not just a slot's tell nothing.
func TestSlotsThatTellNothing(t *testing.T) {
	m := full()
	data := string(m.base.Data)
	head := numbers(1, 8, 7, 5, 300, 4, 40000, 3, 5, 4, 0, 0, 1, 3, 2, 2, 2)
	rows := [][]byte{rowOf(301, 9, ""), rowOf(302, 2, "b"), rowOf(303, top, strings.Repeat("c", api.MaxData))}
	pieces := [][]byte{piece(data[:16384]), piece(data[16384:32768]), piece(data[32768:])}
	end := [][]byte{numbers(4)}
	with := func(h []byte, l ...[][]byte) []byte { return framed(append([][]byte{h}, slices.Concat(l...)...)...) }
	good := with(head, pieces, rows, end)
	if !bytes.Equal(good, m.slot(8)) {
		t.Fatal("the test's own form")
	}
	cases := map[string][]byte{
		"more behind":     append(bytes.Clone(good), 0),
		"an end more":     with(head, pieces, rows, end, end),
		"no end":          with(head, pieces, rows),
		"an end ahead":    with(head, pieces, end, rows),
		"rows ahead":      with(head, rows, pieces, end),
		"a row less":      with(head, pieces, rows[:2], end),
		"a row more":      with(head, pieces, rows, [][]byte{rowOf(304, 1, "")}, end),
		"a row missing":   with(head, pieces, rows[:1], rows[2:], end),
		"a row too early": with(head, pieces, [][]byte{rowOf(300, 1, "")}, rows, end),
		"a record":        with(head, pieces, rows, [][]byte{numbers(6, 7, 5)}, end),
		"a cut":           with(head, pieces, rows, [][]byte{rowOf(304, 1, ""), numbers(7, 304)}, end),
		"a piece less":    with(head, pieces[:2], rows, end),
		"a piece more":    with(head, pieces, [][]byte{piece("")}, rows, end),
		"other pieces":    with(head, [][]byte{piece(data[:16383]), piece(data[16383:32768])}, pieces[2:], rows, end),
		"one great piece": with(head, [][]byte{piece(data[:20000]), piece(data[20000:])}, rows, end),
		"an end and more": with(head, pieces, rows, [][]byte{numbers(4, 0)}),
		"no head":         with(pieces[0], pieces[1:], rows, end),
		"two heads":       with(head, [][]byte{head}, pieces, rows, end),
		"another head":    with(numbers(2, 8, 7, 5, 300, 4, 40000, 3, 5, 4, 0, 0, 1, 3, 2, 2, 2), pieces, rows, end),
		"more in a head":  with(append(bytes.Clone(head), 0), pieces, rows, end),
		"less data":       with(numbers(1, 8, 7, 5, 300, 4, 39999, 3, 5, 4, 0, 0, 1, 3, 2, 2, 2), pieces, rows, end),
		"rows beyond all": with(numbers(1, 8, 7, 5, 300, 4, 40000, math.MaxInt, 5, 4, 0, 0, 1, 3, 2, 2, 2), pieces, rows, end),
		"only a head":     with(head),
		"nothing":         nil,
		"no frame":        {0},
	}
	other := full().setHard(api.Hard{Term: 1})
	tape := framed(numbers(5, 3))
	for name, bad := range cases {
		same(t, name, open(t, laid(t, bad, other.slot(3), tape)), other)
		same(t, name, open(t, laid(t, other.slot(3), bad, tape)), other)
	}
	for i := range good {
		if i < 60 || i > len(good)-60 || i%997 == 0 {
			turned := bytes.Clone(good)
			turned[i] ^= 16
			same(t, "turned at "+strconv.Itoa(i), open(t, laid(t, turned, other.slot(3), tape)), other)
			same(t, "cut at "+strconv.Itoa(i), open(t, laid(t, good[:i], other.slot(3), tape)), other)
		}
	}
}

// P5.1: what may not be kept is told by no slot.
func TestSlotsOfWhatMayNotBe(t *testing.T) {
	bad := map[string]func(m *model){
		"a term":         func(m *model) { m.hard.Term = top + 1 },
		"a vote":         func(m *model) { m.hard.Vote = 6 },
		"an index":       func(m *model) { m.base.Index, m.rows = top+1, nil },
		"a base's term":  func(m *model) { m.base.Term = top + 1 },
		"data":           func(m *model) { m.base.Data = make([]byte, api.MaxImage+1) },
		"six voters":     func(m *model) { m.base.Roster.Voters = make([]int, 6) },
		"six learners":   func(m *model) { m.base.Roster.Learners = make([]int, 6) },
		"a voter":        func(m *model) { m.base.Roster.Voters = []int{5} },
		"a learner":      func(m *model) { m.base.Roster.Learners = []int{0, 5} },
		"a row's term":   func(m *model) { m.rows[1].Term = 0 },
		"a greater one":  func(m *model) { m.rows[1].Term = top + 1 },
		"a row's index":  func(m *model) { m.rows[1].Index = 303 },
		"a row's data":   func(m *model) { m.rows[2].Data = make([]byte, api.MaxData+1) },
		"rows behind it": func(m *model) { m.base.Index, m.rows = top, []api.Entry{entry(top+1, 1, "")} },
	}
	other, tape := model{hard: api.Hard{Term: 1}}, framed(numbers(5, 3))
	for name, spoil := range bad {
		m := full()
		spoil(&m)
		same(t, name, open(t, laid(t, m.slot(8), other.slot(3), tape)), other)
	}
	good := map[string]func(m *model){
		"the greatest term":  func(m *model) { m.hard.Term = top },
		"the greatest index": func(m *model) { m.base.Index, m.rows = top, nil },
		"the last row":       func(m *model) { m.base.Index, m.rows = top-1, []api.Entry{entry(top, top, "")} },
		"the greatest base":  func(m *model) { m.base.Term, m.base.Data = top, make([]byte, api.MaxImage) },
		"all nodes": func(m *model) {
			m.base.Roster = api.Roster{Voters: []int{0, 1, 2, 3, 4}, Learners: []int{4, 4, 4, 4, 4}}
		},
		"nobody":         func(m *model) { m.base.Roster = api.Roster{} },
		"no voters":      func(m *model) { m.base.Roster.Voters = nil },
		"no learners":    func(m *model) { m.base.Roster.Learners = nil },
		"no hard state":  func(m *model) { m.hard = api.Hard{} },
		"no index":       func(m *model) { m.base.Index, m.rows = 0, []api.Entry{entry(1, 1, "a")} },
		"no base's term": func(m *model) { m.base.Term = 0 },
	}
	for name, change := range good {
		m := full()
		change(&m)
		d := laid(t, m.slot(8), other.slot(3), framed(numbers(5, 8)))
		same(t, name, open(t, d), m)
		lies(t, name, d, m.slot(8), other.slot(3), framed(numbers(5, 8)))
	}
}

// P5.1: data goes out in pieces of 2^14 bytes.
func TestPieces(t *testing.T) {
	for _, n := range []int{0, 1, 16383, 16384, 16385, 32768, 32769, 65535, 65536} {
		m := model{base: base(3, 1, strings.Repeat("d", n))}
		d := empty(t, api.MaxRoom)
		s := open(t, d)
		ok(t, s.Rebase(m.base))
		same(t, "rebased", s, m)
		lies(t, "rebased", d, m.slot(2), model{}.slot(1), framed(numbers(5, 2)))
		same(t, "opened", reopened(t, d, 0), m)
	}
}

// P5.1: nil, and the disk's error.
func TestOpenOfNoDisk(t *testing.T) {
	down := empty(t, 100)
	ok(t, down.Crash(0, 0))
	for want, d := range map[api.Errno]*disk.Disk{api.ErrDown: down, api.ErrFull: empty(t, 20)} {
		if s, e := Open(d); s != nil || e != want {
			t.Errorf("%d, not %d", e, want)
		}
	}
	for _, d := range []*disk.Disk{nil, {}} {
		if s, e := Open(d); s != nil || e != api.ErrNil {
			t.Errorf("%d", e)
		}
	}
}

// P5.1: nothing is laid anew behind the last generation.
func TestLastGeneration(t *testing.T) {
	m := full()
	tape := framed(numbers(5, top))
	d := laid(t, nil, m.slot(top), tape)
	s := open(t, d)
	if e := s.Rebase(base(301, 9, "")); e != api.ErrRange {
		t.Fatal(e)
	}
	same(t, "refused", s, m)
	lies(t, "refused", d, nil, m.slot(top), tape)
	ok(t, s.SetHard(api.Hard{Term: 8}), s.Cut(301), s.Sync())
	same(t, "opened", reopened(t, d, 0), m.setHard(api.Hard{Term: 8}).cut(301))
	for _, tape := range [][]byte{nil, framed(numbers(5, top-1)), append(framed(numbers(5, top), numbers(6, 1, 1)), 1)} {
		d := laid(t, nil, m.slot(top), tape)
		if s, e := Open(d); s != nil || e != api.ErrRange {
			t.Error(e)
		}
		lies(t, "refused", d, nil, m.slot(top), tape)
	}
	d = laid(t, m.slot(top-1), nil, nil)
	same(t, "the last but one", open(t, d), m)
	lies(t, "the last but one", d, m.slot(top-1), m.slot(top), framed(numbers(5, top)))
}

// P5.2
func TestSetHard(t *testing.T) {
	d := empty(t, 1000)
	s := open(t, d)
	for _, h := range []api.Hard{{Term: 1, Vote: 1}, {}, {Term: top, Vote: 5}, {Vote: 3}, {Vote: 3}} {
		ok(t, s.SetHard(h))
		if s.Hard() != h {
			t.Error(h, s.Hard())
		}
	}
	for _, h := range []api.Hard{{Term: -1}, {Term: top + 1}, {Vote: -1}, {Vote: 6}, {Term: math.MinInt, Vote: math.MaxInt}} {
		if e := s.SetHard(h); e != api.ErrArg || s.Hard() != (api.Hard{Vote: 3}) {
			t.Error(h, e)
		}
	}
	lies(t, "just these", d, nil, model{}.slot(1), framed(numbers(5, 1), numbers(6, 1, 1), numbers(6, 0, 0), numbers(6, top, 5), numbers(6, 0, 3), numbers(6, 0, 3)))
}

// P5.2
func TestAdd(t *testing.T) {
	d := empty(t, api.MaxRoom)
	s := open(t, d)
	ok(t, s.Add(), s.Add(entry(1, 5, "a")), s.Add(entry(2, 1, ""), entry(3, top, strings.Repeat("x", api.MaxData))))
	m := model{}.add(entry(1, 5, "a"), entry(2, 1, ""), entry(3, top, strings.Repeat("x", api.MaxData)))
	same(t, "added", s, m)
	good := entry(4, 1, "")
	wrong := [][]api.Entry{
		{entry(3, 1, "")}, {entry(5, 1, "")}, {entry(0, 1, "")}, {entry(-1, 1, "")}, {entry(math.MaxInt, 1, "")},
		{entry(4, 0, "")}, {entry(4, -1, "")}, {entry(4, top+1, "")}, {entry(4, 1, strings.Repeat("x", api.MaxData+1))},
		{good, good}, {good, entry(6, 1, "")}, {good, entry(5, 0, "")}, {good, entry(5, 1, ""), entry(4, 1, "")},
	}
	for i, l := range wrong {
		if e := s.Add(l...); e != api.ErrRows {
			t.Errorf("%d: %d", i, e)
		}
		same(t, "refused", s, m)
	}
	lies(t, "just these", d, nil, model{}.slot(1), framed(numbers(5, 1), rowOf(1, 5, "a"), rowOf(2, 1, ""), rowOf(3, top, strings.Repeat("x", api.MaxData))))
	last := open(t, laid(t, model{base: base(top-1, 1, "")}.slot(1), nil, nil))
	ok(t, last.Add(entry(top, 1, "")))
	if e := last.Add(entry(top+1, 1, "")); e != api.ErrRows {
		t.Error(e)
	}
}

// P5.2
func TestCut(t *testing.T) {
	m := full()
	for i := 301; i <= 303; i++ {
		d := laid(t, m.slot(1), nil, framed(numbers(5, 1)))
		s := open(t, d)
		ok(t, s.Cut(i))
		same(t, "cut", s, m.cut(i))
		for _, j := range []int{math.MinInt, -1, 0, 1, 299, 300, i, i + 1, 304, top, math.MaxInt} {
			if e := s.Cut(j); e != api.ErrRows {
				t.Errorf("%d: %d", j, e)
			}
		}
		same(t, "cut", s, m.cut(i))
		ok(t, s.Add(entry(i, 3, "new")))
		same(t, "added", s, m.cut(i).add(entry(i, 3, "new")))
		lies(t, "just these", d, m.slot(1), nil, framed(numbers(5, 1), numbers(7, i), rowOf(i, 3, "new")))
	}
}

// P5.2: rows behind another base stay, if it has the row of its place.
func TestRebase(t *testing.T) {
	m := full()
	for _, b := range []api.Base{
		base(301, 9, "a"), base(302, 2, ""), base(303, top, "c"), base(301, 8, ""), base(302, 9, ""), base(302, 0, ""),
		base(304, top, ""), base(top, top, ""), {Index: 301, Term: 9},
		{Index: 302, Term: 2, Roster: api.Roster{Voters: []int{4, 4, 4, 4, 4}, Learners: []int{0, 1, 2, 3, 4}}, Data: make([]byte, api.MaxImage)},
	} {
		d := laid(t, nil, m.slot(5), framed(numbers(5, 5), numbers(6, 8, 0)))
		s := open(t, d)
		ok(t, s.Rebase(b))
		want := m.setHard(api.Hard{Term: 8}).rebase(b)
		same(t, "rebased", s, want)
		lies(t, "rebased", d, want.slot(6), m.slot(5), framed(numbers(5, 6)))
		same(t, "opened", reopened(t, d, 0), want)
	}
	if n := len(m.rebase(base(301, 9, "")).rows); n != 2 || len(m.rebase(base(301, 8, "")).rows) != 0 {
		t.Fatal("the model", n)
	}
}

// P5.2, P5.6
func TestRebaseRefused(t *testing.T) {
	m := full()
	d := laid(t, nil, m.slot(5), framed(numbers(5, 5)))
	s := open(t, d)
	wrong := []api.Base{
		{}, base(299, 1, ""), base(300, 9, ""), base(-1, 1, ""), base(math.MinInt, 1, ""), base(top+1, 1, ""), base(math.MaxInt, 1, ""),
		base(302, -1, ""), base(302, top+1, ""), base(302, 2, strings.Repeat("x", api.MaxImage+1)),
		{Index: 302, Roster: api.Roster{Voters: []int{5}}}, {Index: 302, Roster: api.Roster{Voters: []int{-1}}}, {Index: 302, Roster: api.Roster{Voters: make([]int, 6)}},
		{Index: 302, Roster: api.Roster{Learners: []int{5}}}, {Index: 302, Roster: api.Roster{Learners: []int{0, -1}}}, {Index: 302, Roster: api.Roster{Learners: make([]int, 6)}},
	}
	for i, b := range wrong {
		if e := s.Rebase(b); e != api.ErrArg {
			t.Errorf("%d: %d", i, e)
		}
		same(t, "refused", s, m)
	}
	lies(t, "refused", d, nil, m.slot(5), framed(numbers(5, 5)))
}

// P5.2: on a disk that is full what did not go out is not kept.
func TestFullDisk(t *testing.T) {
	whole := empty(t, 1000)
	first := open(t, whole)
	ok(t, first.Add(entry(1, 1, "a")))
	room := whole.Used()
	d := empty(t, room+14)
	s := open(t, d)
	m := model{}.add(entry(1, 1, "a"))
	ok(t, s.Add(m.rows...))
	if e := s.Add(entry(2, 1, ""), entry(3, 1, "")); e != api.ErrFull {
		t.Fatal(e)
	}
	m = m.add(entry(2, 1, ""))
	same(t, "the first of two", s, m)
	refused := []api.Errno{s.Add(entry(3, 1, "")), s.SetHard(api.Hard{Term: 1, Vote: 1}), s.Cut(1), s.Rebase(base(1, 1, ""))}
	for i, e := range refused {
		if e != api.ErrFull {
			t.Errorf("call %d: %d", i, e)
		}
	}
	if s.SetHard(api.Hard{Term: -1}) != api.ErrArg || s.Add(entry(4, 1, "")) != api.ErrRows || s.Cut(4) != api.ErrRows || s.Rebase(api.Base{}) != api.ErrArg {
		t.Error("what may not be comes first")
	}
	same(t, "refused", s, m)
	ok(t, s.Sync())
	same(t, "opened", reopened(t, d, 0), m)
}

// P5.2: behind the first Sync of a Rebase another base is kept, whatever comes then.
func TestRebaseThatGoesHalfway(t *testing.T) {
	b := base(1, 1, "data")
	was := model{hard: api.Hard{Term: 3}, rows: []api.Entry{entry(1, 1, "a"), entry(2, 1, "b")}}
	now := was.rebase(b)
	tapes := [][]byte{framed(numbers(5, 4)), framed(numbers(5, 4)), nil, framed(numbers(5, 5)), framed(numbers(5, 5))}
	for n := range 5 {
		d := laid(t, was.slot(4), nil, tapes[0])
		s := open(t, d)
		ok(t, d.Arm(n+1, 99, 0))
		if e := s.Rebase(b); e != api.ErrDown {
			t.Fatal(n, e)
		}
		if n < 2 {
			same(t, "ahead of it", s, was)
		} else {
			same(t, "behind it", s, now)
		}
		ok(t, d.Start())
		lies(t, strconv.Itoa(n), d, was.slot(4), now.slot(5), tapes[n])
		same(t, "opened", open(t, d), now)
	}
	d := empty(t, len(was.slot(4))+len(now.slot(5))+9)
	ok(t, d.Slot(0, was.slot(4)), d.Append(framed(numbers(5, 4))))
	s := open(t, d)
	if e := s.Rebase(b); e != api.ErrFull {
		t.Fatal(e)
	}
	same(t, "no room for the whole slot", s, was)
}

// P5.3
func TestWhatWasSyncedStays(t *testing.T) {
	r := rand.New(rand.NewSource(1))
	for range 300 {
		d := empty(t, api.MaxRoom)
		s := open(t, d)
		var m model
		for _, c := range append(someCalls(r, 12), call{do: (*Save).Sync, lasts: true}) {
			ok(t, c.do(s))
			if c.states != nil {
				m = c.end()
			}
			same(t, "kept", s, m)
			if c.lasts {
				other := d.Clone()
				same(t, "opened", reopened(t, other, -1), m)
			}
		}
		same(t, "opened", reopened(t, d, 0), m)
	}
}

// P5.4, P5.5: the power goes behind each act, so and so.
func TestStruckWithinCalls(t *testing.T) {
	r := rand.New(rand.NewSource(2))
	for range 60 {
		calls := someCalls(r, 10)
		for n := 1; struck(t, r, calls, n); n++ {
		}
	}
}

// struck does calls on a new disk of which the power goes behind the n-th act, and holds that what is opened is one of what may be. It tells whether the power went.
func struck(t *testing.T, r *rand.Rand, calls []call, n int) bool {
	t.Helper()
	d := empty(t, api.MaxRoom)
	s := open(t, d)
	keep, tear := r.Intn(9)-1, r.Intn(60)-1
	ok(t, d.Arm(n, keep, tear))
	may := []model{{}}
	for _, c := range calls {
		e := c.do(s)
		if c.lasts && e == api.OK {
			may = nil
		}
		may = append(may, c.states...)
		if e == api.OK {
			same(t, "kept", s, c.end())
			continue
		}
		if e != api.ErrDown {
			t.Fatal(e)
		}
		ok(t, d.Start())
		holdsOne(t, d, may)
		return true
	}
	return false
}

// holdsOne holds that what a disk opens to is one of some, wherever the power goes in that, too.
func holdsOne(t *testing.T, d *disk.Disk, may []model) {
	t.Helper()
	for n := 1; n < 6; n++ {
		for _, tear := range []int{0, 5, 1000} {
			other := d.Clone()
			ok(t, other.Arm(n, 0, tear))
			if s, e := Open(other); e == api.OK {
				isOne(t, s, may)
				continue
			} else if e != api.ErrDown || s != nil {
				t.Fatal(e)
			}
			ok(t, other.Start())
			isOne(t, open(t, other), may)
		}
	}
	s := open(t, d)
	isOne(t, s, may)
	m := told(s)
	same(t, "opened once more", open(t, d), m)
	same(t, "opened behind a crash", reopened(t, d, 0), m)
}

func isOne(t *testing.T, s *Save, may []model) {
	t.Helper()
	got := told(s).String()
	for _, m := range may {
		if m.String() == got {
			return
		}
	}
	t.Fatalf("%s is none of %v", got, may)
}

// P5.6: what is refused changes neither what is kept nor what lies there.
func TestRefusedChangesNothing(t *testing.T) {
	r := rand.New(rand.NewSource(3))
	d := empty(t, api.MaxRoom)
	s := open(t, d)
	for _, c := range someCalls(r, 60) {
		ok(t, c.do(s))
		m, used := told(s), d.Used()
		refused := []api.Errno{s.SetHard(api.Hard{Vote: 6}), s.Rebase(base(m.base.Index, 1, "")), s.Add(entry(m.last(), 1, "")), s.Add(entry(m.last()+1, 1, ""), entry(m.last()+3, 1, "")), s.Cut(m.base.Index), s.Cut(m.last() + 1)}
		if !slices.Equal(refused, []api.Errno{api.ErrArg, api.ErrArg, api.ErrRows, api.ErrRows, api.ErrRows, api.ErrRows}) {
			t.Fatal(refused)
		}
		same(t, "refused", s, m)
		if d.Used() != used {
			t.Fatal("something lies there")
		}
	}
}

// Whatever lies on a disk, Open ends, and what it tells may be.
func TestOpenOfAnything(t *testing.T) {
	r := rand.New(rand.NewSource(4))
	m := full()
	tape := framed(numbers(5, 8), numbers(6, 1, 1), rowOf(304, 1, "d"), numbers(7, 302), rowOf(302, 1, "e"))
	for range 500 {
		slot, other, rest := m.slot(8), m.setHard(api.Hard{}).slot(7), bytes.Clone(tape)
		for _, b := range [][]byte{slot, other, rest} {
			for range r.Intn(2) {
				b[r.Intn(len(b))] ^= byte(1 + r.Intn(255))
			}
		}
		d := laid(t, slot[:len(slot)-r.Intn(2)], other[:len(other)-r.Intn(2)], rest[:r.Intn(len(rest)+1)])
		s := open(t, d)
		k := kept{hard: s.Hard(), base: s.Base()}
		if !mayHard(k.hard) || !mayBase(k.base) || !k.goOn(s.Rows()) {
			t.Fatal("what may not be")
		}
		ok(t, s.Add(entry(s.Base().Index+len(s.Rows())+1, 1, "x")), s.Sync())
		same(t, "opened", reopened(t, d, 0), told(s))
	}
}

// What is handed in is neither changed nor kept; what is told is new memory.
func TestMemory(t *testing.T) {
	d := empty(t, api.MaxRoom)
	s := open(t, d)
	room := []byte("..data..")
	l := []api.Entry{{Index: 1, Term: 1, Data: room[2:6]}, {Index: 2, Term: 1, Data: room[2:6]}, {Index: 3, Term: 1, Data: room[2:6]}}
	nodes := []int{9, 0, 1, 9}
	b := api.Base{Index: 1, Term: 1, Data: room[2:6], Roster: api.Roster{Voters: nodes[1:3], Learners: nodes[1:2]}}
	ok(t, s.Add(l[:2]...), s.Rebase(b))
	if string(room) != "..data.." || !slices.Equal(nodes, []int{9, 0, 1, 9}) || l[2].Index != 3 {
		t.Fatal("changed")
	}
	clear(room)
	clear(nodes)
	clear(l)
	want := model{
		base: api.Base{Index: 1, Term: 1, Data: []byte("data"), Roster: api.Roster{Voters: []int{0, 1}, Learners: []int{0}}},
		rows: []api.Entry{entry(2, 1, "data")},
	}
	same(t, "kept", s, want)
	got := s.Base()
	spoil(got.Data)
	spoil(got.Roster.Voters)
	spoil(got.Roster.Learners)
	rows := s.Rows()
	for _, e := range rows {
		spoil(e.Data)
	}
	clear(rows[:cap(rows)])
	same(t, "told", s, want)
	ok(t, s.Add(entry(3, 1, "c")))
	same(t, "added", s, want.add(entry(3, 1, "c")))
}

func spoil[T byte | int](l []T) {
	l = l[:cap(l)]
	for i := range l {
		l[i] = 99
	}
}

// A nil Save, and one that Open did not make, is ErrNil ahead of all else.
func TestNilAndPlainSaves(t *testing.T) {
	for _, s := range []*Save{nil, {}, new(Save)} {
		for i, e := range []api.Errno{s.SetHard(api.Hard{}), s.SetHard(api.Hard{Vote: 9}), s.Add(), s.Add(entry(9, 1, "")), s.Cut(0), s.Cut(1), s.Rebase(base(1, 1, "")), s.Rebase(api.Base{}), s.Sync()} {
			if e != api.ErrNil {
				t.Errorf("call %d: %d", i, e)
			}
		}
		same(t, "none", s, model{})
	}
}
