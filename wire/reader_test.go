package wire

import (
	"bytes"
	"math"
	"math/rand"
	"strings"
	"testing"

	"tidemark/api"
)

// asks are all things that a reader may be asked for; each tells whether the answer was zero.
func asks() map[string]func(r *Reader) bool {
	return map[string]func(r *Reader) bool{
		"Number": func(r *Reader) bool { return r.Number() == 0 },
		"Within": func(r *Reader) bool { return r.Within(0, math.MaxInt) == 0 },
		"Signed": func(r *Reader) bool { return r.Signed() == 0 },
		"Text":   func(r *Reader) bool { return r.Text(math.MaxInt) == "" },
		"Flag":   func(r *Reader) bool { return !r.Flag() },
	}
}

// refused holds that an ask of a reader over bytes is refused by an error, and nothing goes on from there.
func refused(t *testing.T, what string, b []byte, ask func(r *Reader) bool, want api.Errno) {
	t.Helper()
	r := Read(append([]byte{1, 9}, b...))
	if r.Number() != 9 {
		t.Fatal("the number ahead")
	}
	if !ask(r) || r.Err() != want || r.End() != want || r.Left() != len(b) {
		t.Errorf("%s of %x: error %d, not %d; %d left of %d", what, b, r.Err(), want, r.Left(), len(b))
	}
	for name, more := range asks() {
		if !more(r) || r.Err() != want || r.Left() != len(b) {
			t.Errorf("%s of %x, then %s: error %d, %d left", what, b, name, r.Err(), r.Left())
		}
	}
}

// wrongNumbers are bytes with which no number begins, and why.
func wrongNumbers() map[string]api.Errno {
	return map[string]api.Errno{
		"":                                 api.ErrShort,
		"\x01":                             api.ErrShort,
		"\x02\x01":                         api.ErrShort,
		"\x02\x00":                         api.ErrShort,
		"\x08\xff\xff\xff\xff\xff\xff\xff": api.ErrShort,
		"\x08\x00\x00\x00\x00\x00\x00\x00": api.ErrShort,
		"\x09":                             api.ErrForm,
		"\xff":                             api.ErrForm,
		"\x09\x01\x02\x03\x04\x05\x06\x07\x08\x09": api.ErrForm,
		"\x01\x00":                             api.ErrForm,
		"\x02\x00\x01":                         api.ErrForm,
		"\x08\x00\xff\xff\xff\xff\xff\xff\xff": api.ErrForm,
		"\x08\x80\x00\x00\x00\x00\x00\x00\x00": api.ErrRange,
		"\x08\xff\xff\xff\xff\xff\xff\xff\xff": api.ErrRange,
	}
}

// P1.2
func TestWhatIsNoNumberIsRefused(t *testing.T) {
	for b, want := range wrongNumbers() {
		for name, ask := range asks() {
			if name != "Signed" {
				refused(t, name, []byte(b), ask, want)
			}
		}
	}
}

// P1.2
func TestWithinIsFromLowToHigh(t *testing.T) {
	within := func(lo, hi int) func(r *Reader) bool {
		return func(r *Reader) bool { return r.Within(lo, hi) == 0 }
	}
	b := Number(nil, 300)
	for _, c := range [][2]int{{300, 300}, {0, 300}, {300, math.MaxInt}, {math.MinInt, math.MaxInt}} {
		if r := Read(b); r.Within(c[0], c[1]) != 300 || r.End() != api.OK {
			t.Errorf("from %d to %d: %d", c[0], c[1], r.Err())
		}
	}
	for _, c := range [][2]int{{301, 400}, {0, 299}, {301, 299}, {400, 200}, {-5, -1}, {math.MaxInt, math.MinInt}} {
		refused(t, "Within", b, within(c[0], c[1]), api.ErrRange)
	}
	refused(t, "Within", []byte{0}, within(1, 5), api.ErrRange)
	for bad, want := range wrongNumbers() {
		refused(t, "Within nothing", []byte(bad), within(5, 4), want)
	}
	if r := Read(Number(nil, math.MaxInt)); r.Within(math.MaxInt, math.MaxInt) != math.MaxInt {
		t.Error("the greatest one")
	}
}

// P1.2
func TestTextIsBoundedAndWhole(t *testing.T) {
	text := func(most int) func(r *Reader) bool {
		return func(r *Reader) bool { return r.Text(most) == "" }
	}
	abc := Text(nil, "abc")
	if r := Read(abc); r.Text(3) != "abc" || r.End() != api.OK {
		t.Error("just as many")
	}
	for _, most := range []int{2, 0, -1, math.MinInt} {
		refused(t, "Text", abc, text(most), api.ErrLong)
		refused(t, "one byte", Text(nil, "a"), text(min(most, 0)), api.ErrLong)
		if r := Read([]byte{0}); r.Text(most) != "" || r.End() != api.OK {
			t.Errorf("an empty text, at most %d: %d", most, r.End())
		}
	}
	for n := 1; n < len(abc); n++ {
		refused(t, "Text", abc[:n], text(3), api.ErrShort)
	}
	refused(t, "too long and cut", abc[:2], text(2), api.ErrLong)
	huge := Number(nil, math.MaxInt)
	refused(t, "huge", huge, text(math.MaxInt), api.ErrShort)
	refused(t, "huge", append(huge, 'a'), text(math.MaxInt-1), api.ErrLong)
}

// P1.2
func TestSignedWantsEightBytes(t *testing.T) {
	b := Signed(nil, -3)
	for n := range 8 {
		refused(t, "Signed", b[:n], asks()["Signed"], api.ErrShort)
	}
	if r := Read(append(b, 1)); r.Signed() != -3 || r.Left() != 1 || r.Err() != api.OK {
		t.Error(r.Err())
	}
}

// P1.2
func TestFlagIsNoOtherNumber(t *testing.T) {
	for _, n := range []int{2, 3, 255, 256, math.MaxInt} {
		refused(t, "Flag", Number(nil, n), asks()["Flag"], api.ErrForm)
	}
	if r := Read([]byte{0, 1, 1}); r.Flag() || !r.Flag() || r.End() != api.OK {
		t.Error(r.End())
	}
}

// P1.2
func TestLeftErrEndTell(t *testing.T) {
	r := Read([]byte{1, 5, 0})
	if r.Left() != 3 || r.Err() != api.OK || r.End() != api.ErrMore {
		t.Error("at the beginning", r.Left(), r.Err(), r.End())
	}
	if r.Number() != 5 || r.Left() != 1 || r.Err() != api.OK || r.End() != api.ErrMore {
		t.Error("in the midst: End must not be an error that stays", r.Err())
	}
	if r.Number() != 0 || r.Left() != 0 || r.Err() != api.OK || r.End() != api.OK {
		t.Error("at the end", r.Left(), r.Err(), r.End())
	}
	for _, b := range [][]byte{nil, {}} {
		if r := Read(b); r.Left() != 0 || r.Err() != api.OK || r.End() != api.OK {
			t.Error("of nothing")
		}
	}
}

// P1.2: the first error stays, whatever else is wrong.
func TestFirstErrorStays(t *testing.T) {
	r := Read([]byte{1, 2, 9, 9})
	r.Flag()
	if r.Err() != api.ErrForm || r.Text(0) != "" || r.Err() != api.ErrForm || r.Within(5, 6) != 0 || r.End() != api.ErrForm || r.Left() != 4 {
		t.Error(r.Err(), r.Left())
	}
}

// P1.2
func TestReaderHasACopy(t *testing.T) {
	room := []byte{1, 5, 1, 6, 1, 7}
	r := Read(room[:4])
	for i := range room {
		room[i] = 0xee
	}
	if r.Number() != 5 || r.Number() != 6 || r.End() != api.OK {
		t.Error(r.Err())
	}
	if !bytes.Equal(room, bytes.Repeat([]byte{0xee}, 6)) {
		t.Error("the reader wrote to what it was handed")
	}
}

// P1.2
func TestTwoReadersKnowNothingOfOneAnother(t *testing.T) {
	b := []byte{1, 5, 9}
	p, q := Read(b), Read(b)
	p.Number()
	p.Number()
	if p.Err() != api.ErrForm || q.Err() != api.OK || q.Left() != 3 || q.Number() != 5 {
		t.Error(p.Err(), q.Err())
	}
}

// P1.2
func TestReaderThatReadDidNotMake(t *testing.T) {
	for _, r := range []*Reader{nil, {}, new(Reader)} {
		for name, ask := range asks() {
			if !ask(r) {
				t.Errorf("%s is not zero", name)
			}
		}
		if r.Left() != 0 || r.Err() != api.ErrNil || r.End() != api.ErrNil {
			t.Error(r.Left(), r.Err(), r.End())
		}
	}
}

// P1.4
func TestWhatIsPutIsRead(t *testing.T) {
	r := rand.New(rand.NewSource(3))
	behind := [][]byte{nil, {0}, {8}, {0xff, 0xff}, []byte("whatever stands behind it all")}
	for _, tail := range behind {
		for _, n := range numbers() {
			if got := Read(append(Number(nil, n), tail...)); got.Number() != n || got.Left() != len(tail) || got.Err() != api.OK {
				t.Errorf("number %d", n)
			}
		}
		for _, n := range []int64{0, 1, -1, math.MaxInt64, math.MinInt64, int64(r.Uint64())} {
			if got := Read(append(Signed(nil, n), tail...)); got.Signed() != n || got.Left() != len(tail) {
				t.Errorf("signed %d", n)
			}
		}
		for _, s := range []string{"", "a", "\xff\x00\xc3", strings.Repeat("ab", 5000)} {
			if got := Read(append(Text(nil, s), tail...)); got.Text(len(s)) != s || got.Left() != len(tail) {
				t.Errorf("text %q", s)
			}
		}
		for _, yes := range []bool{true, false} {
			if got := Read(append(Flag(nil, yes), tail...)); got.Flag() != yes || got.Left() != len(tail) || got.Err() != api.OK {
				t.Errorf("flag %t", yes)
			}
		}
	}
}

// P1.5
func TestWhatIsReadHasOneForm(t *testing.T) {
	kinds := map[string]func(r *Reader) []byte{
		"number": func(r *Reader) []byte { return Number(nil, r.Number()) },
		"within": func(r *Reader) []byte { return Number(nil, r.Within(1, 1000)) },
		"signed": func(r *Reader) []byte { return Signed(nil, r.Signed()) },
		"text":   func(r *Reader) []byte { return Text(nil, r.Text(3)) },
		"flag":   func(r *Reader) []byte { return Flag(nil, r.Flag()) },
	}
	rnd := rand.New(rand.NewSource(4))
	signs := []byte{0, 1, 2, 3, 8, 9, 0x7f, 0x80, 0xff}
	read := 0
	for range 100000 {
		b := make([]byte, rnd.Intn(11))
		for i := range b {
			b[i] = signs[rnd.Intn(len(signs))]
		}
		for name, again := range kinds {
			r := Read(b)
			got := again(r)
			if r.Err() != api.OK {
				continue
			}
			read++
			if !bytes.Equal(got, b[:len(b)-r.Left()]) {
				t.Fatalf("%s: %x of %x", name, got, b)
			}
		}
	}
	if read < 1000 {
		t.Errorf("only %d were read", read)
	}
}
