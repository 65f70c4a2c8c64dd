package console

import (
	"strings"
	"testing"
)

// P23.2: a side above 1 is error 151 in all lines that have one.
func TestSides(t *testing.T) {
	var l []said
	for _, s := range good {
		word, rest, _ := strings.Cut(s, " ")
		_, rest, _ = strings.Cut(rest, " ")
		switch word {
		case "open", "put", "del", "cas", "index", "count", "sum", "drop", "sub", "ack", "group", "join", "gone", "leave", "commit", "relay", "compare", "knows":
			continue // these have none
		}
		for _, side := range []string{"2", "3", "999999"} {
			l = append(l, said{strings.TrimSuffix(word+" "+side+" "+rest, " "), "error 151"})
		}
	}
	if len(l) != 26*3 {
		t.Fatal(len(l))
	}
	plays(t, "mirror 0 0 -", append(l, said{"calls 0", "calls"}, said{"calls 1", "calls"}, said{"look 0 0 0", "ok"}, said{"calls 0", "calls; 0 0 1 0 0 0 0 0"})...)
}

// P23.2: steps of nodes, and their errors.
func TestNodes(t *testing.T) {
	plays(t, "mirror 0,1,2 3 -", join([]said{
		{"tick 0 5 9", "error 151"}, {"crash 0 5 0 0", "error 151"}, {"start 0 5 0", "error 151"}, {"arm 0 9 1 0 0", "error 151"}, {"pack 0 5", "error 151"}, {"hand 0 5 0", "error 151"}, {"roster 0 5 0 -", "error 151"},
		{"start 0 0 9", "error 150"}, {"crash 0 0 0 0", "ok"}, {"crash 0 0 0 0", "error 150"}, {"tick 0 0 9", "error 150"}, {"arm 0 0 1 0 0", "error 150"}, {"pack 0 0", "error 150"}, {"hand 0 0 1", "error 150"}, {"roster 0 0 0 -", "error 150"},
		{"start 0 0 3", "ok"},
		{"pack 0 0", "error 120"}, {"hand 0 0 1", "error 130"}, {"roster 0 0 0,1 -", "error 130"},
	}, leads("0"), []said{
		{"roster 0 0 - -", "error 110"}, {"roster 0 0 0,0 -", "error 110"}, {"roster 0 0 0,9 -", "error 110"}, {"roster 0 0 0 1,2", "error 111"}, {"roster 0 0 1,2 -", "error 111"},
		{"hand 0 0 0", "error 110"}, {"hand 0 0 3", "error 110"}, {"hand 0 0 999999", "error 110"},
		{"roster 0 0 0,1,2 4", "ok"}, {"roster 0 0 0,1,2 -", "error 131"}, {"hand 0 0 1", "error 131"}, {"pack 0 0", "ok"},
		{"carry 0 200", "ok"}, {"hand 0 0 2", "ok"}, {"carry 0 200", "ok"},
		{"tick 0 2 9", "ok"}, {"carry 0 200", "ok"},
		{"state 0 0", "state 0 3 2 3 3 1 2 0 " + images(t, nothings(3)...)[3]},
		{"state 0 2", "state 3 3 2 3 3 0 3 0 " + images(t, nothings(3)...)[3]},
		{"wall 0 999999", "ok"}, {"wall 1 0", "ok"},
		{"arm 0 2 0 0 0", "ok"}, // no fuse
		{"tick 0 2 9", "ok"},
		{"arm 1 3 1 9 9", "ok"}, {"tick 1 3 9", "ok"}, {"tick 1 3 9", "ok"}, {"tick 1 3 9", "ok"}, {"tick 1 3 9", "ok"}, {"tick 1 3 9", "ok"},
		{"tick 1 3 9", "error 30"}, {"tick 1 3 9", "error 150"}, {"start 1 3 1", "ok"}, {"tick 1 3 0", "ok"},
		{"state 1 3", "state 3 4 2 4 1 0 1 0 " + images(t, nothings(1)...)[1]},
	})...)
}

// P23.2: arm: behind how many acts the power goes, how many of those that wait are done, and how much of the next one: of the first vote, and of the first entry behind it.
func TestArm(t *testing.T) {
	for how, kept := range map[string]string{
		"2 0 0": "0 0 0 0 0", "2 0 3": "0 0 0 0 0", "2 0 99": "1 1 0 0 0", "2 1 0": "1 1 0 0 0", "2 1 3": "1 1 0 0 0", "2 1 99": "1 1 0 0 1", "2 2 0": "1 1 0 0 1",
		"1 0 99": "1 1 0 0 0", "1 0 0": "0 0 0 0 0", "3 0 0": "1 1 0 0 1",
	} {
		plays(t, "mirror 0 0 -", join(ticks(0, 0, 2), []said{
			{"arm 0 0 " + how, "ok"}, {"tick 0 0 9", "error 30"}, {"start 0 0 9", "ok"},
			{"state 0 0", "state 0 0 " + kept + " 0 " + images(t)[0]},
		})...)
	}
}

// P23.2: moves of the relay, at a node of the side that they are of.
func TestRelay(t *testing.T) {
	none := "knows 0 0 0 0 0 0"
	var l []said
	for _, what := range []string{"", "_", "open_", "Open", "again", "cluster", "pull,push", "2", "tick", "-"} {
		l = append(l, said{"relay " + what + " 0", "error 151"})
	}
	for _, what := range []string{"reset", "pull", "push", "ack", "drop"} {
		l = append(l, said{"relay " + what + " 0", "error 151"})
	}
	plays(t, "mirror 0 0 a", join(l, leads("0"), leads("1"), []said{
		{"knows", none}, {"relay forget 9", "ok"}, {"relay open 5", "error 151"}, {"retry 0 0", "error 151"},
		{"relay open 1", "ok"}, {"relay look 0", "error 131"}, {"retry 1 0", "error 151"}, {"retry 2 0", "error 151"}, {"retry 0 5", "error 151"}, {"retry 0 0", "ok"},
		{"relay sub 0", "ok"}, {"knows", "knows 1 3 0 0 0 0"}, {"relay reset 0", "error 151"},
		{"open 0 0", "ok"}, {"put 0 0 a x", "ok"}, {"put 0 0 b x", "ok"},
		{"relay look 0", "ok"}, {"knows", "knows 1 3 0 0 6 0"}, {"relay pull 0", "error 151"}, {"relay ack 0", "error 151"},
		{"relay reset 0", "ok"}, {"knows", "knows 1 3 6 1 0 0"}, {"keys 1 0", "keys; a x"},
		{"put 0 0 a_b y", "ok"}, {"put 0 0 c y", "ok"},
		{"relay push 0", "error 151"}, {"relay pull 5", "error 150"}, {"relay pull 1", "error 80"}, {"relay pull 0", "ok"}, {"knows", "knows 1 3 6 1 0 8"}, {"relay pull 0", "error 151"},
		{"relay push 0", "ok"}, {"knows", "knows 1 3 8 1 0 0"}, {"keys 1 0", "keys; a x; a_b y"},
		{"relay ack 0", "ok"}, {"feed 0 0 1 7", "error 82"}, {"feed 0 0 1 8", "feed 9"},
		{"relay forget 0", "ok"}, {"knows", "knows 1 3 0 0 0 0"}, {"relay learn 0", "ok"}, {"knows", "knows 1 3 8 1 0 0"},
		{"relay drop 0", "ok"}, {"knows", none}, {"feed 0 0 1 8", "error 80"},
		{"calls 1", "calls; 2 11 4 4 2 0 6 0; 2 10 5 5 3 0 8 0; 2 0 6 6 3 0 8 2"},
	})...)
}

// P23.2: the prefix is as it stands in the first line, the keys are not; - is none.
func TestPrefix(t *testing.T) {
	for prefix, keys := range map[string]string{"a_b": "keys", "a": "keys; a_b x", "-": "keys; -c y; a_b x", "": "keys; -c y; a_b x", "-c": "keys; -c y", "_": "keys"} {
		plays(t, "mirror 0 0 "+prefix, join(leads("0"), leads("1"), all("open 0 0", "put 0 0 a_b x", "put 0 0 -c y", "relay open 0", "relay sub 0", "relay look 0", "relay reset 0"), []said{{"keys 1 0", keys}})...)
	}
}
