package console

import (
	"fmt"
	"testing"

	"tidemark/api"
)

// The document's ten examples of the whole, as texts.

// ticks are so many ticks of a node.
func ticks(side, node, n int) []said {
	var l []said
	for range n {
		l = append(l, said{fmt.Sprintf("tick %d %d 9", side, node), "ok"})
	}
	return l
}

const three = "mirror 0,1,2 0,1,2 -"

// have is what some nodes of the source have.
func have(keys string, nodes ...int) []said {
	var l []said
	for _, i := range nodes {
		l = append(l, said{fmt.Sprintf("keys 0 %d", i), "keys" + keys})
	}
	return l
}

// 1. Three nodes: one asks, stands, leads; a session is begun, a key is written: two of three have it: it is answered.
func TestWrites(t *testing.T) {
	plays(t, three, join(ticks(0, 0, 3), []said{
		{"way 0", "way 1 2"}, {"take 0 1", "ok"}, {"way 0", "way 2 3"}, // node 1 granted
		{"take 0 3", "ok"}, {"way 0", "way 2 4 5"}, // it stands
		{"take 0 4", "ok"}, {"take 0 6", "ok"}, {"way 0", "way 2 5 7 8"}, // it leads
		{"carry 0 200", "ok"}, {"open 0 0", "ok"}, {"carry 0 200", "ok"}, {"put 0 0 a n:1", "ok"},
	}, have("", 0, 1, 2), []said{
		{"carry 0 1", "ok"}, // node 1 has it
	}, have("", 0, 1, 2), []said{
		{"carry 0 2", "ok"}, // node 2, too, and node 1 says so: that is two of three
	}, have("; a n:1", 0), have("", 1, 2), all("carry 0 200", "tick 0 0 9", "carry 0 200"), have("; a n:1", 0, 1, 2), []said{
		{"calls 0", "calls; 0 1 16 19 2 0 1 0; 0 2 21 24 3 0 0 0"},
	})...)
}

// 2. The same command asked of two leaders, one behind the other: it is done once, and answered alike.
func TestTwoLeaders(t *testing.T) {
	plays(t, three, join(leads("0"), all("open 0 0", "carry 0 200", "put 0 0 a old", "carry 0 200",
		"cas 0 0 a old new", "carry 0 2", // both others have it
		"wall 0 1", "carry 0 200", // but the leader never knows
	), ticks(0, 1, 4), []said{
		{"carry 0 200", "ok"}, {"keys 0 1", "keys; a new"}, {"keys 0 0", "keys; a old"},
		{"again 0 0 1", "ok"}, {"carry 0 200", "ok"}, {"keys 0 1", "keys; a new"},
		{"wall 0 0", "ok"}, {"tick 0 1 9", "ok"}, {"carry 0 200", "ok"},
	}, have("; a new", 0, 1, 2), []said{
		{"calls 0", "calls; 0 1 16 19 2 0 1 0; 0 2 21 24 3 0 0 0; 0 2 26 48 6 0 0 0"}, // the first time it was entry 4
	})...)
}

// 3. A leader crashes in the midst of a write, its disk torn: whoever leads next has all that was answered.
func TestTorn(t *testing.T) {
	plays(t, three, join(leads("0"), all("open 0 0", "carry 0 200", "put 0 0 a 1", "carry 0 200",
		"arm 0 0 1 0 5", "put 0 0 b 2"), []said{
		{"keys 0 0", "error 150"}, {"way 0", "way"},
	}, ticks(0, 1, 4), all("carry 0 200"), have("; a 1", 1), all("start 0 0 9", "again 0 0 1", "carry 0 200", "tick 0 1 9", "carry 0 200"), have("; a 1; b 2", 0, 1, 2))...)
}

// 4. A sum by a field; a write that would carry it beyond 64 bits: ErrOver, and nothing has changed.
func TestOver(t *testing.T) {
	plays(t, "mirror 0 0 -", join(leads("0"), all("open 0 0", "sum 0 0 s c n", "put 0 0 a c:x_n:9223372036854775807", "put 0 0 b c:x_n:-1"), []said{
		{"rows 0 0 s", "rows; x 9223372036854775806"},
		{"put 0 0 b c:x_n:1", "ok"},
		{"calls 0", "calls; 0 1 4 4 2 0 1 0; 0 4 5 5 3 0 0 0; 0 2 6 6 4 0 0 0; 0 2 7 7 5 0 0 0; 0 2 8 8 6 72 0 0"},
		{"rows 0 0 s", "rows; x 9223372036854775806"}, {"keys 0 0", "keys; a c:x_n:9223372036854775807; b c:x_n:-1"},
	})...)
}

// 5. A subscriber reads from one node, then from another one: each change once, in order.
func TestTwoNodes(t *testing.T) {
	plays(t, three, join(leads("0"), all("open 0 0", "carry 0 200", "sub 0 0 put", "carry 0 200", "put 0 0 b 1", "carry 0 200", "del 0 0 b", "carry 0 200", "put 0 0 a 2", "carry 0 200", "put 0 0 b 3", "carry 0 200"), []said{
		{"feed 0 0 1 3", "feed 7; 4 b 1 1; 6 a 1 2; 7 b 1 3"},
		{"feed 0 1 1 3", "feed 6; 4 b 1 1; 6 a 1 2"}, // it is not so far yet
		{"feed 0 2 1 5", "feed 6; 6 a 1 2"},
		{"feed 0 2 1 7", "error 5"},
		{"tick 0 0 9", "ok"}, {"carry 0 200", "ok"},
		{"feed 0 2 1 6", "feed 7; 7 b 1 3"},
		{"ack 0 0 1 6", "ok"}, {"carry 0 200", "ok"}, {"tick 0 0 9", "ok"}, {"carry 0 200", "ok"},
		{"feed 0 1 1 6", "feed 8; 7 b 1 3"}, {"feed 0 1 1 5", "error 82"},
	})...)
}

// 6. A subscriber reads nothing, 33 changes come: it is let go, and told so.
func TestLetGo(t *testing.T) {
	l := join(leads("0"), all("open 0 0", "sub 0 0 all"))
	for i := range 32 {
		l = append(l, said{fmt.Sprintf("put 0 0 a %d", i), "ok"})
	}
	all32 := "feed 35"
	for i := range 32 {
		all32 += fmt.Sprintf("; %d a 1 %d", i+4, i)
	}
	plays(t, "mirror 0 0 -", append(l, said{"feed 0 0 1 3", all32}, said{"put 0 0 a x", "ok"}, said{"feed 0 0 1 3", "error 81"}, said{"feed 0 0 1 36", "error 81"})...)
}

// 7. A node that learns gets a base in pieces, then entries; it votes, and the leader hands over to it.
func TestLearns(t *testing.T) {
	l := join(leads("0"), all("open 0 0", "carry 0 200"))
	keys := ""
	for i := range 20 {
		n := uint64(i + 1)
		pair := fmt.Sprintf("k%02d %016x%016x%016x", i, n*0x9e3779b97f4a7c15, n*0xbf58476d1ce4e5b9, n*0x94d049bb133111eb) // so that it can't be packed well
		l = append(l, all("put 0 0 "+pair, "carry 0 200")...)
		keys += "; " + pair
	}
	l = append(l, all("pack 0 0", "roster 0 0 0,1,2 3")...)
	s, _ := pieced(three, l)
	x := newModel(t)
	x.run(s)
	if n := len(x.m.Side(0).Node(0).State().Base.Data); n <= api.MaxPart {
		t.Fatal("one piece", n)
	}
	come := all("carry 0 200", "tick 0 0 9", "carry 0 200")
	plays(t, three, join(l, come, have(keys, 0, 3), []said{
		{"hand 0 0 3", "error 110"}, {"roster 0 0 0,1,2,3 -", "ok"},
	}, come, all("hand 0 0 3", "carry 0 200", "put 0 3 a 1", "carry 0 200"), have("; a 1"+keys, 3), []said{
		{"roster 0 0 0,1,2 3", "error 130"},
	})...)
}

// 8. A relay pulls, pushes, forgets: it asks the mirror where that is, and goes on from there.
func TestGoesOn(t *testing.T) {
	here, there := "carry 0 200", "carry 1 200"
	plays(t, three, join(leads("0"), leads("1"), all("open 0 0", here, "put 0 0 a 1", here, // entry 3
		"relay open 0", here, "relay sub 0", here, "relay look 0", here, "relay reset 0", there,
		"put 0 0 b 2", here, "relay pull 0"), []said{
		{"knows", "knows 1 5 5 1 0 6"},
		{"relay push 0", "ok"}, {"relay forget 0", "ok"}, {"knows", "knows 1 5 0 0 0 0"}, // it is on its way
		{there, "ok"}, {"put 0 0 c 3", "ok"}, {here, "ok"},
		{"relay pull 0", "error 151"}, {"relay learn 0", "ok"}, {"knows", "knows 1 5 0 0 0 0"}, {there, "ok"}, {"knows", "knows 1 5 6 1 0 0"},
		{"relay pull 0", "ok"}, {"knows", "knows 1 5 6 1 0 7"}, {"relay push 0", "ok"}, {there, "ok"}, {"knows", "knows 1 5 7 1 0 0"},
		{"keys 1 0", "keys; a 1; b 2; c 3"}, {"compare 0 0", "compare 1 0"},
	})...)
}

// 9. A batch is applied twice, and late: the mark says that it was done.
func TestTwice(t *testing.T) {
	plays(t, "mirror 0 0,1,2 -", join(leads("0"), leads("1"), all("open 0 0", "put 0 0 a 1", "relay open 0", "relay sub 0", "relay look 0", "relay reset 0", "carry 1 200", "put 0 0 b 2", "relay pull 0",
		"relay push 0", "retry 1 0", "retry 1 0", "carry 1 200"), []said{
		{"knows", "knows 1 5 6 1 0 0"}, {"keys 1 0", "keys; a 1; b 2"}, {"state 1 0", "state 3 1 1 1 5 0 5 6 " + images(t, api.Command{}, reset(5, "a", "1"), apply(5, 6, "b", "2"), apply(5, 6, "b", "2"), apply(5, 6, "b", "2"))[5]},
		{"put 0 0 b 3", "ok"}, {"relay pull 0", "ok"}, {"relay push 0", "ok"}, {"carry 1 200", "ok"}, {"keys 1 0", "keys; a 1; b 3"},
	})...)
}

func reset(pos int, key, value string) api.Command {
	return api.Command{Kind: api.CReset, Pos: pos, Ops: []api.Op{{Key: key, Has: true, Value: value}}}
}

func apply(from, pos int, key, value string) api.Command {
	return api.Command{Kind: api.CApply, From: from, Pos: pos, Ops: []api.Op{{Key: key, Has: true, Value: value}}}
}

// 10. A leader behind a wall is asked for a look: it is not answered.
func TestWalled(t *testing.T) {
	plays(t, three, join(leads("0"), all("wall 0 1", "look 0 0 0", "carry 0 200", "tick 0 0 9", "carry 0 200"), []said{
		{"state 0 0", "state 3 1 1 1 1 0 1 0 " + images(t, api.Command{})[1]},
		{"calls 0", "calls; 0 0 17 0 0 0 0 0"},
		{"wall 0 0", "ok"}, {"tick 0 0 9", "ok"}, {"carry 0 4", "ok"},
		{"calls 0", "calls; 0 0 17 27 1 0 0 0"}, // there is none any more
	})...)
}

// 10. Three members share four parts of a feed; one leaves: the others have its parts, and go on where it was.
func TestShares(t *testing.T) {
	plays(t, "mirror 0 0 -", join(leads("0"), all("open 0 0", "group 0 0 g 4 all", "join 0 0 g", "join 0 0 g", "join 0 0 g"), []said{ // entries 2 to 6
		{"groups 0 0", "groups; g 1 3 (1 2 3) (1 1 2 3) (3 3 3 3)"},
		{"commit 0 0 g 1 3 0 6", "ok"}, {"commit 0 0 g 1 3 1 5", "ok"},
		{"groups 0 0", "groups; g 1 3 (1 2 3) (1 1 2 3) (6 5 3 3)"},
		{"leave 0 0 g 1", "ok"},
		{"groups 0 0", "groups; g 1 4 (2 3) (2 3 2 3) (6 5 3 3)"},
		{"commit 0 0 g 1 4 0 7", "ok"}, {"commit 0 0 g 2 3 0 7", "ok"}, {"commit 0 0 g 2 4 1 7", "ok"}, {"commit 0 0 g 2 4 0 5", "ok"}, {"commit 0 0 g 2 4 0 7", "ok"},
		{"groups 0 0", "groups; g 1 4 (2 3) (2 3 2 3) (7 5 3 3)"},
		{"calls 0", "calls; 0 1 4 4 2 0 1 0; 0 12 5 5 3 0 1 0; 0 13 6 6 4 0 1 0; 0 13 7 7 5 0 2 0; 0 13 8 8 6 0 3 0; 0 15 9 9 7 0 0 0; 0 15 10 10 8 0 0 0; 0 14 11 11 9 0 0 0; 0 15 12 12 10 221 0 0; 0 15 13 13 11 222 0 0; 0 15 14 14 12 223 0 0; 0 15 15 15 13 82 0 0; 0 15 16 16 14 0 0 0"},
	})...)
}
