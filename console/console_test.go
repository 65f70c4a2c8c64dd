package console

import (
	"strings"
	"testing"

	"tidemark/api"
)

// said is a line behind the first one, and what it answers.
type said struct{ line, answer string }

// pieced is a text of a first line and others, and its report.
func pieced(first string, l []said) (s, report string) {
	s = first + "\n"
	for _, x := range l {
		s += x.line + "\n"
		report += x.answer + "\n"
	}
	return s, report
}

// plays holds what each line of a text answers.
func plays(t *testing.T, first string, l ...said) {
	t.Helper()
	s, want := pieced(first, l)
	got, at, e := Run(s)
	if at != 0 || e != api.OK {
		t.Fatalf("line %d: error %d", at, e)
	}
	answers := strings.Split(got, "\n")
	for i, x := range l {
		if i < len(answers) && answers[i] != x.answer {
			t.Errorf("line %d, %q: %q, not %q", i+2, x.line, answers[i], x.answer)
		}
	}
	if got != want && !t.Failed() {
		t.Fatalf("%q, not %q", got, want)
	}
}

// all are lines that are ok.
func all(lines ...string) []said {
	var l []said
	for _, x := range lines {
		l = append(l, said{x, "ok"})
	}
	return l
}

// leads has node 0 of a side lead, if at most it and two others vote.
func leads(side string) []said {
	tick := "tick " + side + " 0 9"
	return all(tick, tick, tick, "carry "+side+" 200")
}

func join(l ...[]said) []said {
	var out []said
	for _, x := range l {
		out = append(out, x...)
	}
	return out
}

// The document's example.
func TestExample(t *testing.T) {
	plays(t, "mirror 0 0 -",
		said{"tick 0 0 9", "ok"}, said{"tick 0 0 9", "ok"}, said{"tick 0 0 9", "ok"},
		said{"put 0 0 a n:1", "error 151"}, said{"open 0 0", "ok"}, said{"put 0 0 a n:1", "ok"}, said{"keys 0 0", "keys; a n:1"})
}

// checks holds what Check tells of a text, and that Run tells no more of one that is none.
func checks(t *testing.T, s string, at int, want api.Errno) {
	t.Helper()
	show := s
	if len(show) > 100 {
		show = show[:100] + ".."
	}
	if n, e := Check(s); n != at || e != want {
		t.Errorf("%q: line %d, error %d, not %d, %d", show, n, e, at, want)
	}
	r, n, e := Run(s)
	if n != at || e != want || e != api.OK && r != "" {
		t.Errorf("Run of %q: %q, line %d, error %d, not %d, %d", show, r, n, e, at, want)
	}
}

// P23.1, P23.2: a text of no line that says anything.
func TestNoLine(t *testing.T) {
	for _, s := range []string{"", "\n", "\n\n\n", "#", "# mirror", "#\n\n#mirror 0 0 -\n", "#" + strings.Repeat("x", 9000), "mirror 0 0 -", "mirror 0 0 -\n", "\n#\nmirror 0 0 -\n#"} {
		checks(t, s, 0, api.OK)
		if r, _, _ := Run(s); r != "" {
			t.Errorf("%q: %q", s, r)
		}
	}
}

// P23.1: how long a text is at most, whatever it is.
func TestLongText(t *testing.T) {
	remark := "#" + strings.Repeat("x", api.MaxText-1)
	checks(t, remark, 0, api.OK)
	checks(t, remark+"x", 0, api.ErrLong)
	checks(t, remark+"\n", 0, api.ErrLong)
	checks(t, strings.Repeat("\n", api.MaxText), 0, api.OK)
	checks(t, strings.Repeat("\n", api.MaxText+1), 0, api.ErrLong)
	checks(t, strings.Repeat("?\n", api.MaxText), 0, api.ErrLong) // no line of it is one, either
	checks(t, strings.Repeat("?\n", api.MaxText/2), 1, api.ErrLine)
	checks(t, strings.Repeat("ä", api.MaxText/2+1), 0, api.ErrLong) // bytes count
	whole := "mirror 0 0 -\n"
	whole += strings.Repeat("knows\n", (api.MaxText-len(whole))/6)
	checks(t, whole+strings.Repeat("\n", api.MaxText-len(whole)), 0, api.OK)
	checks(t, whole+strings.Repeat("\n", api.MaxText-len(whole)+1), 0, api.ErrLong)
}

// P23.1: how long a line is at most, if it says something.
func TestLongLine(t *testing.T) {
	const first = "mirror 0 0 -\n"
	put := "put 0 0 k "
	long := put + strings.Repeat("x", api.MaxLine-len(put))
	checks(t, first+long, 0, api.OK)
	checks(t, first+long+"\n"+long+"x", 3, api.ErrLine)
	checks(t, first+long+"x\n", 2, api.ErrLine)
	checks(t, first+put+strings.Repeat("ä", (api.MaxLine-len(put))/2), 0, api.OK)
	checks(t, first+put+strings.Repeat("ä", (api.MaxLine-len(put))/2+1), 2, api.ErrLine)
	checks(t, first+"#"+strings.Repeat("x", api.MaxLine)+"\nknows", 0, api.OK)
	query := "query 0 0 keys"
	checks(t, first+query+strings.Repeat(" ", api.MaxLine-len(query)), 0, api.OK)
	checks(t, first+query+strings.Repeat(" ", api.MaxLine-len(query)+1), 2, api.ErrLine)
	voters := "mirror 0"
	checks(t, voters+strings.Repeat(",", api.MaxLine), 1, api.ErrLine)
}

// P23.1: the first line that says something; P22.1 tells what it may ask for.
func TestFirstLine(t *testing.T) {
	for _, s := range []string{
		"mirror 0 0 -", "mirror 4 0,1,2,3,4 -", "mirror 2,0 1 a", "mirror 0 0 ab/c", "mirror 0 0 --", "mirror 0 0 a_b", "mirror 0 0 _", "mirror 0 0 #", "mirror 0 0 ä€😀",
		"mirror 0 0 " + strings.Repeat("€", api.MaxKey), "mirror 0 0 mirror",
		"mirror 0 0 ", // no prefix, as it stands
	} {
		checks(t, s, 0, api.OK)
		checks(t, "\n# a remark\n"+s+"\n\nknows\n", 0, api.OK)
		checks(t, "\n# a remark\n"+s+"\n\n"+s, 5, api.ErrLine) // it is no word
	}
	for _, s := range []string{
		"mirror", "mirror 0", "mirror 0 0", "mirror 0 0 - -", "mirror 0 0 - ", "mirror  0 0 -", " mirror 0 0 -", "Mirror 0 0 -", "mirro 0 0 -", "mirrors 0 0 -", "- 0 0 -",
		"mirror - 0 -", "mirror 0 - -", "mirror 0,0 0 -", "mirror 0 1,1 -", "mirror 5 0 -", "mirror 0 5 -", "mirror 0,999999 0 -",
		"mirror -1 0 -", "mirror 00 0 -", "mirror 0, 0 -", "mirror ,0 0 -", "mirror 0,,1 0 -", "mirror 0;1 0 -", "mirror 0 x -", "mirror x 0 -", "mirror 0  -", "mirror +0 0 -", "mirror 0,- 0 -", "mirror 1000000 0 -",
		"mirror 0 0 a\x7f", "mirror 0 0 a\t", "mirror 0 0 \xff", "mirror 0 0 \ufffd", "mirror 0 0 a\r", "mirror 0 0 " + strings.Repeat("x", api.MaxKey+1),
		" ", "  ", "\t", " #", "knows", "tick 0 0 9",
	} {
		checks(t, s, 1, api.ErrLine)
		checks(t, "#\n\n"+s+"\nmirror 0 0 -\n", 3, api.ErrLine)
	}
}

// good is a line of each word.
var good = []string{
	"tick 0 0 9", "start 0 0 9", "take 0 1", "lose 0 1", "double 0 1", "carry 0 200", "crash 0 0 1 2", "arm 0 0 3 1 2", "pack 0 0", "wall 0 3", "hand 0 0 1", "roster 0 0 0,1 2",
	"open 0 0", "put 0 0 a b", "del 0 0 a", "cas 0 0 a b c", "index 0 0 v f", "count 0 0 v f", "sum 0 0 v f g", "drop 0 0 v", `sub 0 0 key ^ "a b" and put`, "ack 0 0 1 2", "group 0 0 g 4 not all",
	"join 0 0 g", "gone 0 0 g", "leave 0 0 g 1", "commit 0 0 g 1 2 3 4", "look 0 0 0", "again 0 0 0", "quit 0 0", "relay open 0", "retry 0 0",
	"keys 0 0", "state 0 0", "groups 0 0", "rows 0 0 v", "feed 0 0 1 2", `query 0 0 sum n where key ^ "a" by g down skip 1 first 2`, "plan 0 0 keys", "poll 0 0 g 1 2", "compare 0 0", "calls 0", "way 0", "knows",
}

// free is the words behind which all the rest of a line is one thing.
var free = map[string]bool{"sub": true, "group": true, "query": true, "plan": true}

// P23.1: each word has just so many parts.
func TestParts(t *testing.T) {
	const first = "mirror 0 0 -\n"
	if len(good) != 44 {
		t.Fatal(len(good))
	}
	for _, s := range good {
		checks(t, first+s, 0, api.OK)
		word, _, _ := strings.Cut(s, " ")
		l := strings.Split(s, " ")
		for _, x := range []string{word + "x", "x" + word, strings.ToUpper(word), word[1:], word[:len(word)-1], " ", word + "\r", word + "\t"} {
			l[0] = x
			checks(t, first+"knows\n"+strings.Join(l, " "), 3, api.ErrLine)
		}
		checks(t, first+" "+s, 2, api.ErrLine)
		if !free[word] {
			checks(t, first+s+" ", 2, api.ErrLine)
			checks(t, first+s+" 1", 2, api.ErrLine)
			l[0] = word
			for n := 1; n < len(l); n++ {
				checks(t, first+strings.Join(l[:n], " "), 2, api.ErrLine)
			}
		}
	}
	for _, s := range []string{"sub 0 0", "sub 0", "sub", "group 0 0 g 4", "group 0 0 g", "query 0 0", "query 0", "plan 0 0", "sub 0 0 ", "group 0 0 g 4 ", "query 0 0 ", "sub 0 0 - ", "mirror 0 0 -", "help", "-", "9"} {
		checks(t, first+s, 2, api.ErrLine)
	}
}

// P23.1: numbers, nodes, text parts, filters and questions.
func TestKinds(t *testing.T) {
	const first = "mirror 0 0 -\n"
	number := map[string]bool{
		"0": true, "1": true, "10": true, "99999": true, "999999": true, "100000": true,
		"": false, "-": false, "-0": false, "-1": false, "00": false, "01": false, "000001": false, "1000000": false, "9999999": false, "+1": false, "1.": false, "1e3": false, "0x1": false, "a": false, "1a": false, "1_": false, "_": false, "１": false, "1\t": false, "1,2": false,
	}
	for s, ok := range number {
		at, e := 2, api.ErrLine
		if ok {
			at, e = 0, api.OK
		}
		for _, line := range []string{"calls %", "take 0 %", "tick % 0 9", "tick 0 0 %", "arm 0 0 % 0 0", "commit 0 0 g 1 2 % 4", "ack 0 0 % 1", "relay open %", "group 0 0 g % all", "wall 0 %", "compare % 0", "poll 0 0 g 0 %", "roster 0 % 0 -"} {
			checks(t, first+strings.ReplaceAll(line, "%", s), at, e)
		}
	}
	for _, s := range []string{"-", "0", "0,1", "4,4,4", "999999", "7,8,9,10,11,12,13"} {
		checks(t, first+"roster 0 0 "+s+" -", 0, api.OK)
		checks(t, first+"roster 0 0 - "+s, 0, api.OK)
	}
	for _, s := range []string{"", ",", "0,", ",0", "0,,1", "-,0", "0,-", "--", "-0", "-1", "0,-1", "01", "1000000", "0,1000000", "a", "0;1", "0,_1"} {
		checks(t, first+"roster 0 0 "+s+" -", 2, api.ErrLine)
		checks(t, first+"roster 0 0 0 "+s, 2, api.ErrLine)
	}
	for _, s := range []string{"", "_", "__", "-", "\t", "\x00", "\xff", "\r", "😀", ";", "#", `"`, "a_b", strings.Repeat("x", 240)} {
		checks(t, first+"put 0 0 "+s+" "+s, 0, api.OK)
		checks(t, first+"relay "+s+" 0", 0, api.OK)
		checks(t, first+"rows 0 0 "+s, 0, api.OK)
	}
	for s, e := range map[string]api.Errno{"0": api.OK, "1": api.OK, "199": api.OK, "200": api.OK, "201": api.ErrLine, "999999": api.ErrLine, "1000000": api.ErrLine, "-1": api.ErrLine} {
		at := 2
		if e == api.OK {
			at = 0
		}
		checks(t, first+"carry 0 "+s, at, e)
		checks(t, first+"carry 7 "+s, at, e) // the side is looked at when it is played
	}
}

// P23.1: filters and questions are all the rest of a line.
func TestRest(t *testing.T) {
	const first = "mirror 0 0 -\n"
	deep := strings.Repeat("not ", 6) + "all"
	for s, ok := range map[string]bool{
		"all": true, " all": true, "all ": true, "  put  ": true, `key^"a"`: true, `key ^ "a  b" or x="#"`: true, "any()": true, "each ( all , put )": true, deep[4:]: true, `x = "` + strings.Repeat("€", api.MaxValue) + `"`: true,
		"all all": false, "ALL": false, "any(": false, "key": false, `key ^ ""`: false, `key ^ "a`: false, "all\t": false, "all\r": false, deep: false, "nothing": false, `x = "` + strings.Repeat("€", api.MaxValue+1) + `"`: false, `longfield = "a"`: false, "all # so": false, "_": false, "\xff": false, `x = "` + "\xff" + `"`: false,
	} {
		at, e := 2, api.ErrLine
		if ok {
			at, e = 0, api.OK
		}
		checks(t, first+"sub 0 0 "+s, at, e)
		checks(t, first+"group 0 0 g 4 "+s, at, e)
		checks(t, first+"query 0 0 count where "+s, at, e)
		checks(t, first+"plan 0 0 keys where "+s+" by f down", at, e)
	}
	for s, ok := range map[string]bool{
		"keys": true, "  count  ": true, "keys by f down skip 1 first 1099511627776": true, "least n": true, "top n by g": true, "sum n first 1": true,
		"key": false, "sum": false, "keys n": false, "keys down": false, "keys by": false, "keys skip 0": false, "keys first 0": false, "keys first 1099511627777": false, "keys where": false, "keys where all where all": false, "keys by longfield": false, "keys first 1 skip 1": false, "count;": false,
	} {
		at, e := 2, api.ErrLine
		if ok {
			at, e = 0, api.OK
		}
		checks(t, first+"query 0 0 "+s, at, e)
		checks(t, first+"plan 0 0 "+s, at, e)
	}
}

// P23.1: the number of the line is among all lines; the first one that is none counts.
func TestLineNumbers(t *testing.T) {
	checks(t, "# one\n\nmirror 0 0 -\n\nknows\n#\nknow\nknew\n", 7, api.ErrLine)
	checks(t, "know\nknew\n", 1, api.ErrLine)
	checks(t, "mirror 0 0 -\nknows\nknows ", 3, api.ErrLine)
	checks(t, "mirror 0 0 -\r\nknows\r\n", 1, api.ErrLine)
	checks(t, "mirror 0 0 -\n"+strings.Repeat("\n", 5000)+"?", 5002, api.ErrLine)
	checks(t, "mirror 9 0 -\n?\n", 1, api.ErrLine)
}
