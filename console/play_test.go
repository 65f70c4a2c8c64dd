package console

import (
	"fmt"
	"strings"
	"testing"

	"tidemark/api"
	"tidemark/group"
	"tidemark/machine"
	"tidemark/wire"
)

// P23.2: keys, and how blanks are read and told.
func TestKeys(t *testing.T) {
	plays(t, "mirror 0 0 -", join(leads("0"), all(
		"open 0 0", "put 0 0 b n:1", "put 0 0 a_b n:1_c:x", "put 0 0 _ __", "put 0 0 ä;€ #;_;", "put 0 0 b1 ",
	), []said{
		{"keys 0 0", "keys; _ __; a_b n:1_c:x; b n:1; b1 ; ä;€ #;_;"},
		{"del 0 0 a_b", "ok"}, {"del 0 0 _", "ok"}, {"del 0 0 b", "ok"}, {"del 0 0 ä;€", "ok"},
		{"keys 0 0", "keys; b1 "},
		{"cas 0 0 b1  x_y", "ok"}, // it has the empty value
		{"cas 0 0 b1 x z", "ok"},  // it has not x: the call tells so
		{"keys 0 0", "keys; b1 x_y"},
		{"cas 0 0 b1 x_y z", "ok"},
		{"keys 0 0", "keys; b1 z"},
		{"del 0 0 b1", "ok"},
		{"keys 0 0", "keys"}, {"keys 0 1", "keys"}, {"keys 1 4", "keys"},
		{"keys 0 5", "error 150"}, {"keys 1 999999", "error 150"}, {"keys 2 0", "error 151"}, {"keys 2 5", "error 151"},
		{"put 0 0  x", "error 20"}, {"put 0 0 a\x7f x", "error 20"}, {"del 0 0 ", "error 20"}, {"put 0 0 a x\xff", "error 21"},
		{"put 0 0 " + strings.Repeat("k", 25) + " x", "error 20"}, {"put 0 0 k " + strings.Repeat("x", 49), "error 21"}, {"cas 0 0 k x\ty z", "error 21"},
	})...)
}

// P23.2: calls; the reply's error is told there alone.
func TestCalls(t *testing.T) {
	plays(t, "mirror 0 0 -", join(leads("0"), []said{ // three steps, entry 1
		{"calls 0", "calls"},
		{"open 1 0", "ok"},          // step 4, entry 2
		{"put 1 0 a n:1", "ok"},     // 3
		{"cas 1 0 a n:2 n:3", "ok"}, // 4
		{"del 0 0 a", "error 151"},  // step 7: no session
		{"look 0 1 0", "ok"},        // step 8
		{"open 0 0", "ok"},          // step 9, entry 5
		{"index 0 0 v g", "ok"},     // 6
		{"count 0 0 w g", "ok"},     // 7
		{"sum 0 0 s g n", "ok"},     // 8
		{"drop 0 0 v", "ok"},        // 9
		{"sub 0 0 put", "ok"},       // 10
		{"ack 0 0 1 9", "ok"},       // 11: the subscriber began at 10
		{"ack 0 0 1 11", "ok"},      // 12
		{"group 0 0 g 3 all", "ok"}, // 13
		{"join 0 0 g", "ok"},        // 14
		{"commit 0 0 g 1 1 2 14", "ok"},
		{"leave 0 0 g 1", "ok"}, // 16
		{"gone 0 0 g", "ok"},    // 17
		{"gone 0 0 g", "ok"},    // 18
		{"calls 0", "calls; 1 1 4 4 2 0 1 0; 1 2 5 5 3 0 0 0; 1 2 6 6 4 60 0 0; 1 0 8 8 4 0 0 1; 0 1 9 9 5 0 2 0; 0 4 10 10 6 0 0 0; 0 4 11 11 7 0 0 0; 0 4 12 12 8 0 0 0; 0 5 13 13 9 0 0 0; 0 6 14 14 10 0 1 0; 0 7 15 15 11 82 0 0; 0 7 16 16 12 0 0 0; 0 12 17 17 13 0 2 0; 0 13 18 18 14 0 1 0; 0 15 19 19 15 0 0 0; 0 14 20 20 16 0 0 0; 0 16 21 21 17 0 0 0; 0 16 22 22 18 220 0 0"},
		{"calls 1", "calls"}, {"calls 2", "error 151"}, {"calls 999999", "error 151"},
		{"look 1 0 0", "ok"}, {"open 0 1", "ok"}, // none leads there
		{"calls 1", "calls; 0 0 1 0 0 0 0 0"},
		{"open 0 0", "error 151"}, {"again 0 0 0", "ok"}, {"quit 1 0", "ok"}, {"quit 1 0", "error 151"}, {"again 1 0 0", "error 151"},
		{"calls 1", "calls; 0 0 1 2 0 151 0 0"},
		{"look 2 0 0", "error 151"}, {"again 2 0 0", "error 151"}, {"quit 2 0", "error 151"},
		{"look 0 2 0", "error 151"}, {"look 1 3 0", "error 151"}, {"look 0 0 5", "error 151"}, {"open 2 0", "error 151"}, {"put 2 0 a b", "error 151"}, {"open 3 0", "error 151"}, {"open 0 5", "error 151"},
	})...)
}

// P23.2: what of views, of the last events, of groups may be asked is told by the calls' errors; what can't be asked at all at once.
func TestRefused(t *testing.T) {
	plays(t, "mirror 0 0 -", join(leads("0"), all("open 0 0"), []said{
		{"index 0 0 V g", "error 22"}, {"index 0 0 v _", "error 22"}, {"count 0 0 v longfield", "error 22"}, {"sum 0 0 v g ", "error 22"}, {"drop 0 0 a_b", "error 22"},
		{"group 0 0 G 1 all", "error 220"}, {"group 0 0 g 0 all", "error 220"}, {"group 0 0 g 13 all", "error 220"}, {"join 0 0 _", "error 220"}, {"leave 0 0 9 1", "error 220"}, {"commit 0 0 g_ 1 1 0 1", "error 220"}, {"gone 0 0 ", "error 220"},
		{"calls 0", "calls; 0 1 4 4 2 0 1 0"},
	})...)
}

// P23.2: rows of views, and of questions; plans.
func TestRows(t *testing.T) {
	const most = "9223372036854775807"
	plays(t, "mirror 0 0 -", join(leads("0"), all(
		"open 0 0", "index 0 0 v c", "count 0 0 w c", "sum 0 0 s c n",
		"put 0 0 a_1 n:-5_c:x", "put 0 0 a2 c:x", "put 0 0 b n:7_c:", "put 0 0 c_3 n:1",
	), []said{
		{"rows 0 0 v", "rows;  1 b; x 2 a_1 a2"}, {"rows 0 0 w", "rows;  1; x 2"}, {"rows 0 0 s", "rows;  7; x -5"},
		{"rows 0 0 u", "error 71"}, {"rows 0 0 ", "error 71"}, {"rows 0 1 v", "error 71"}, {"rows 1 0 v", "error 71"}, {"rows 0 5 v", "error 150"}, {"rows 2 0 v", "error 151"},
		{"query 0 0 keys", "query; n:-5_c:x 1 a_1; c:x 1 a2; n:7_c: 1 b; n:1 1 c_3"},
		{"query 0 0 keys by n down first 2", "query; c:x 1 a2; n:7_c: 1 b"},
		{`query 0 0 keys where key ^ "a"`, "query; n:-5_c:x 1 a_1; c:x 1 a2"},
		{"query 0 0 count", "query;  4"}, {"query 0 0 count by c", "query;  1; x 2"}, {"query 0 0 sum n", "query;  3"}, {"query 0 0 least n by c", "query;  7; x -5"}, {"query 0 0 top q", "query"},
		{"query 0 0 count where any()", "query"}, {"query 0 1 count", "query"}, {"query 0 5 count", "error 150"}, {"query 2 0 count", "error 151"},
		{"plan 0 0 keys", "plan 0  "}, {`plan 0 0 keys where key ^ "a "`, "plan 1  a_"}, {`plan 0 0 sum n where c = "x y" and key ^ "a"`, "plan 2 c x_y"}, {`plan 0 0 count where n = "5"`, "plan 0  "},
		{"plan 0 5 keys", "error 150"}, {"plan 2 0 keys", "error 151"}, {`plan 0 1 keys where c = "x"`, "plan 0  "},
		{"put 0 0 k1 n:" + most, "ok"}, {"put 0 0 k2 n:" + most, "ok"},
		{"query 0 0 sum n", "error 72"}, {"plan 0 0 sum n", "error 72"}, {"query 0 0 top n", "query;  " + most}, {"plan 0 0 top n", "plan 0  "},
	})...)
}

// P23.2: feeds.
func TestFeed(t *testing.T) {
	l := join(leads("0"), all("open 0 0", `sub 0 0 key ^ "a"`, "put 0 0 a_1 x_y", "put 0 0 b 1", "put 0 0 a2 ", "del 0 0 a_1"), []said{ // the subscriber began at 3
		{"feed 0 0 1 3", "feed 7; 4 a_1 1 x_y; 6 a2 1 ; 7 a_1 0 "},
		{"feed 0 0 1 4", "feed 7; 6 a2 1 ; 7 a_1 0 "}, {"feed 0 0 1 7", "feed 7"},
		{"feed 0 0 1 2", "error 82"}, {"feed 0 0 1 8", "error 5"}, {"feed 0 0 2 3", "error 80"}, {"feed 0 0 0 3", "error 80"}, {"feed 0 1 1 3", "error 80"}, {"feed 0 5 1 3", "error 150"}, {"feed 2 0 1 3", "error 151"},
		{"ack 0 0 1 6", "ok"}, {"feed 0 0 1 6", "feed 8; 7 a_1 0 "}, {"feed 0 0 1 5", "error 82"},
	})
	for i := range 32 {
		l = append(l, said{fmt.Sprintf("put 0 0 a n:%d", i), "ok"})
	}
	plays(t, "mirror 0 0 -", append(l, said{"feed 0 0 1 6", "error 81"})...)
}

// P23.2: groups.
func TestGroups(t *testing.T) {
	plays(t, "mirror 0 0 -", join(leads("0"), all("open 0 0"), []said{
		{"groups 0 0", "groups"},
		{"group 0 0 g 4 all", "ok"}, // entry 3
		{"groups 0 0", "groups; g 1 0 () (0 0 0 0) (3 3 3 3)"},
		{"join 0 0 g", "ok"}, {"join 0 0 g", "ok"},
		{"group 0 0 h 1 put", "ok"}, // entry 6
		{"commit 0 0 g 1 2 0 5", "ok"},
		{"groups 0 0", "groups; g 1 2 (1 2) (1 1 2 2) (5 3 3 3); h 2 0 () (0) (6)"},
		{"leave 0 0 g 1", "ok"},
		{"groups 0 0", "groups; g 1 3 (2) (2 2 2 2) (5 3 3 3); h 2 0 () (0) (6)"},
		{"gone 0 0 g", "ok"},
		{"groups 0 0", "groups; h 2 0 () (0) (6)"},
		{"put 0 0 a x_y", "ok"}, {"del 0 0 a", "ok"}, {"put 0 0 b_b 1", "ok"},
		{"poll 0 0 h 0 6", "poll 12; 10 a 1 x_y; 12 b_b 1 1"},
		{"poll 0 0 h 0 10", "poll 12; 12 b_b 1 1"},
		{"poll 0 0 h 1 6", "error 1"}, {"poll 0 0 g 0 6", "error 220"}, {"poll 0 0  0 6", "error 220"}, {"poll 0 0 h 0 5", "error 82"}, {"poll 0 0 h 0 13", "error 5"}, {"poll 0 1 h 0 6", "error 220"}, {"poll 0 5 h 0 6", "error 150"}, {"poll 2 0 h 0 6", "error 151"},
		{"groups 0 1", "groups"}, {"groups 0 5", "error 150"}, {"groups 2 0", "error 151"},
	})...)
}

// P23.2: the parts of a group: each event is told by its own (P13.1).
func TestPoll(t *testing.T) {
	l := join(leads("0"), all("open 0 0", "group 0 0 g 4 put")) // entry 3
	var polls [4]string
	for i, key := range strings.Fields("a b c d e f g h") {
		l = append(l, said{fmt.Sprintf("put 0 0 %s %d", key, i), "ok"})
		polls[group.Part(4, key)] += fmt.Sprintf("; %d %s 1 %d", i+4, key, i)
	}
	for part, events := range polls {
		if events == "" {
			t.Fatal(part)
		}
		l = append(l, said{fmt.Sprintf("poll 0 0 g %d 3", part), "poll 11" + events})
	}
	plays(t, "mirror 0 0 -", append(l, said{"poll 0 0 g 4 3", "error 1"}, said{"poll 0 0 g 0 11", "poll 11"})...)
}

// sum is how many bytes a machine's image has, and their sum, as state tells them.
func sum(m *machine.Machine) string {
	b := m.Image()
	return fmt.Sprintf("%d %x", len(b), wire.Sum(b))
}

// images are what state tells of images behind so many commands.
func images(t *testing.T, l ...api.Command) []string {
	t.Helper()
	m := machine.New()
	out := []string{sum(m)}
	for i, c := range l {
		b, e := machine.Put(c)
		if e != api.OK {
			t.Fatal(e)
		}
		m.Apply(i+1, b)
		out = append(out, sum(m))
	}
	return out
}

// nothings are so many commands of which nothing comes.
func nothings(n int) []api.Command { return make([]api.Command, n) }

// P23.2: state.
func TestState(t *testing.T) {
	ops := []api.Op{{Key: "a", Has: true, Value: "x y"}}
	at := images(t, api.Command{}, api.Command{Kind: api.COpen}, api.Command{Kind: api.CWrite, Session: 1, Seq: 1, Ops: ops})
	there := images(t, api.Command{}, api.Command{Kind: api.CReset, Pos: 6, Ops: ops})
	tick := "tick 0 0 9"
	plays(t, "mirror 0 0,1,2 -", join([]said{
		{"state 0 0", "state 0 0 0 0 0 0 0 0 " + at[0]}, {"state 1 4", "state 0 0 0 0 0 0 0 0 " + at[0]},
	}, leads("0"), []said{
		{"state 0 0", "state 3 1 1 1 1 0 1 0 " + at[1]},
		{"open 0 0", "ok"}, {"put 0 0 a x_y", "ok"},
		{"state 0 0", "state 3 1 1 1 3 0 3 0 " + at[3]},
		{"pack 0 0", "ok"},
		{"state 0 0", "state 3 1 1 1 3 3 0 0 " + at[3]},
		{"crash 0 0 0 0", "ok"}, {"state 0 0", "error 150"}, {"start 0 0 9", "ok"},
		{"state 0 0", "state 0 0 1 1 3 3 0 0 " + at[3]},
		{"state 0 5", "error 150"}, {"state 2 0", "error 151"},
	}, all(tick, tick, tick, tick, tick, tick, tick, tick, tick, "relay open 0", "relay sub 0", "relay look 0"), []said{ // entries 4 to 6
		{"tick 1 1 9", "ok"}, {"tick 1 1 9", "ok"}, {"tick 1 1 9", "ok"}, {"state 1 1", "state 0 0 0 0 0 0 0 0 " + at[0]},
		{"tick 1 1 9", "ok"}, {"state 1 1", "state 1 0 0 0 0 0 0 0 " + at[0]}, // it asks
		{"carry 1 3", "ok"}, {"state 1 1", "state 2 0 1 2 0 0 0 0 " + at[0]}, {"way 1", "way 4 5 6"}, // one granted: it stands
		{"carry 1 200", "ok"}, {"state 1 1", "state 3 2 1 2 1 0 1 0 " + at[1]}, {"state 1 0", "state 0 2 1 2 0 0 1 0 " + at[0]},
		{"relay reset 1", "ok"}, {"carry 1 200", "ok"}, {"state 1 1", "state 3 2 1 2 2 0 2 6 " + there[2]}, {"state 1 0", "state 0 2 1 2 1 0 2 0 " + at[1]},
		{"tick 1 1 9", "ok"}, {"carry 1 200", "ok"}, {"state 1 0", "state 0 2 1 2 2 0 2 6 " + there[2]},
	})...)
}

// P23.2: a small sum is told without noughts ahead.
func TestSmallSum(t *testing.T) {
	for i := range 999 {
		value := fmt.Sprint(i)
		at := images(t, api.Command{}, api.Command{Kind: api.COpen}, api.Command{Kind: api.CWrite, Session: 1, Seq: 1, Ops: []api.Op{{Key: "a", Has: true, Value: value}}})[3]
		if _, digits, _ := strings.Cut(at, " "); len(digits) > 7 {
			continue
		}
		plays(t, "mirror 0 0 -", join(leads("0"), all("open 0 0", "put 0 0 a "+value), []said{{"state 0 0", "state 3 1 1 1 3 0 3 0 " + at}})...)
		return
	}
	t.Fatal("none is small")
}

// P23.2: compare; a key that just one has is in one part by four digits.
func TestCompare(t *testing.T) {
	plays(t, "mirror 0 0 a", join(leads("0"), leads("1"), all("open 0 0", "put 0 0 a_1 x", "put 0 0 b y"), []said{
		{"compare 0 1", "compare 113 2; a_1; b"}, // they part at the first digit
		{"compare 1 2", "compare 1 0"},
		{"relay open 0", "ok"}, {"relay sub 0", "ok"}, {"relay look 0", "ok"}, {"relay reset 0", "ok"},
		{"keys 1 0", "keys; a_1 x"},
		{"compare 0 0", "compare 65 1; b"}, {"compare 1 0", "compare 65 1; a_1"},
		{"put 0 0 a_1 z", "ok"}, {"del 0 0 b", "ok"},
		{"compare 0 0", "compare 65 2; a_1"},
		{"compare 0 5", "error 150"}, {"compare 5 0", "error 150"},
		{"crash 1 3 0 0", "ok"}, {"compare 0 3", "error 150"}, {"compare 3 1", "compare 1 0"}, {"crash 0 3 0 0", "ok"}, {"compare 3 1", "error 150"},
	})...)
}

// P23.2: messages, and carry.
func TestMessages(t *testing.T) {
	plays(t, "mirror 0,1,2 0,1 -", join(all("tick 0 0 9", "tick 0 0 9"), []said{
		{"way 0", "way"}, {"carry 0 200", "ok"}, {"calls 0", "calls"},
		{"tick 0 0 9", "ok"},
		{"way 0", "way 1 2"}, {"way 1", "way"}, {"way 2", "error 151"},
		{"double 0 1", "ok"}, {"way 0", "way 1 2 3"},
		{"lose 0 1", "ok"}, {"lose 0 1", "error 151"}, {"take 0 1", "error 151"}, {"double 0 1", "error 151"}, {"take 0 0", "error 151"}, {"take 0 999999", "error 151"}, {"take 1 2", "error 151"}, {"lose 1 2", "error 151"}, {"double 1 2", "error 151"},
		{"take 2 2", "error 151"}, {"lose 2 2", "error 151"}, {"double 2 2", "error 151"}, {"carry 2 1", "error 151"}, {"carry 999999 0", "error 151"},
		{"carry 0 0", "ok"}, {"way 0", "way 2 3"},
		{"carry 0 1", "ok"}, {"way 0", "way 3 4"}, // 2 granted
		{"take 0 3", "ok"}, {"way 0", "way 4 5"}, // 1 granted
		{"carry 0 2", "ok"}, {"way 0", "way 6 7"}, // it stands; the second grant comes too late
		{"wall 0 1", "ok"}, {"take 0 6", "ok"}, {"way 0", "way 7"}, // it was lost
		{"wall 0 0", "ok"}, {"carry 0 1", "ok"}, {"way 0", "way 8"}, // 2 voted
		{"carry 0 200", "ok"}, {"way 0", "way"}, {"state 0 0", "state 3 1 1 1 1 0 1 0 " + images(t, api.Command{})[1]},
	})...)
	l := all("tick 1 0 9", "tick 1 0 9", "tick 1 0 9")
	for range 199 {
		l = append(l, said{"double 1 1", "ok"})
	}
	plays(t, "mirror 0,1,2 0,1 -", append(l, said{"double 1 1", "error 7"})...)
}
