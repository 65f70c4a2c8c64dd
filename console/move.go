package console

import "tidemark/api"

// move is the move of the mirror that a line is; false: it is none, but tells something, or carries.
func (l line) move() (api.Move, bool) {
	n := l.numbers
	switch l.word {
	case "relay":
		return api.Move{Kind: relayed(l.texts[0]), Node: n[0]}, true
	case "retry":
		return api.Move{Kind: api.RAgain, Side: n[0], Node: n[1]}, true
	}
	if s, ok := l.step(); ok {
		return at(n[0], s), true
	}
	if c, ok := l.command(); ok {
		return at(sourceSide, api.Step{Kind: api.SAsk, Hand: n[0], Node: n[1], Command: c}), true
	}
	return api.Move{}, false
}

// at is a step of a side.
func at(side int, s api.Step) api.Move { return api.Move{Kind: api.RCluster, Side: side, Step: s} }

// relayed is the kind of a move of the relay; 0, which is none: there is no such move.
func relayed(what string) int {
	switch what {
	case "forget":
		return api.RForget
	case "open":
		return api.ROpen
	case "sub":
		return api.RSub
	case "look":
		return api.RLook
	case "reset":
		return api.RReset
	case "pull":
		return api.RPull
	case "push":
		return api.RPush
	case "ack":
		return api.RAck
	case "learn":
		return api.RLearn
	case "drop":
		return api.RDrop
	}
	return 0
}

// step is the step that a line tells of the side that is its first number; false: it tells none.
func (l line) step() (api.Step, bool) {
	n := l.numbers
	switch l.word {
	case "tick":
		return api.Step{Kind: api.STick, Node: n[1], Timeout: n[2]}, true
	case "start":
		return api.Step{Kind: api.SStart, Node: n[1], Timeout: n[2]}, true
	case "take":
		return api.Step{Kind: api.STake, N: n[1]}, true
	case "lose":
		return api.Step{Kind: api.SLose, N: n[1]}, true
	case "double":
		return api.Step{Kind: api.SDouble, N: n[1]}, true
	case "crash":
		return api.Step{Kind: api.SCrash, Node: n[1], Keep: n[2], Tear: n[3]}, true
	case "arm":
		return api.Step{Kind: api.SArm, Node: n[1], N: n[2], Keep: n[3], Tear: n[4]}, true
	case "pack":
		return api.Step{Kind: api.SPack, Node: n[1]}, true
	case "wall":
		return api.Step{Kind: api.SWall, N: n[1]}, true
	case "hand":
		return api.Step{Kind: api.SHand, Node: n[1], Other: n[2]}, true
	case "roster":
		return api.Step{Kind: api.SRoster, Node: n[1], Roster: api.Roster{Voters: l.nodes[0], Learners: l.nodes[1]}}, true
	case "look":
		return api.Step{Kind: api.SAsk, Hand: n[1], Node: n[2]}, true
	case "again":
		return api.Step{Kind: api.SAgain, Hand: n[1], Node: n[2]}, true
	case "quit":
		return api.Step{Kind: api.SQuit, Hand: n[1]}, true
	}
	return api.Step{}, false
}

// command is what a line has a client want, whose hand and node are its first numbers; false: it has none want anything.
func (l line) command() (api.Command, bool) {
	n, t := l.numbers, l.texts
	switch l.word {
	case "open":
		return api.Command{Kind: api.COpen}, true
	case "put":
		return api.Command{Kind: api.CWrite, Ops: []api.Op{{Key: t[0], Has: true, Value: t[1]}}}, true
	case "del":
		return api.Command{Kind: api.CWrite, Ops: []api.Op{{Key: t[0]}}}, true
	case "cas":
		return api.Command{Kind: api.CWrite, Conds: []api.Op{{Key: t[0], Has: true, Value: t[1]}}, Ops: []api.Op{{Key: t[0], Has: true, Value: t[2]}}}, true
	case "index":
		return api.Command{Kind: api.CView, View: api.View{Name: t[0], Kind: api.VIndex, Field: t[1]}}, true
	case "count":
		return api.Command{Kind: api.CView, View: api.View{Name: t[0], Kind: api.VCount, Field: t[1]}}, true
	case "sum":
		return api.Command{Kind: api.CView, View: api.View{Name: t[0], Kind: api.VSum, Field: t[1], Of: t[2]}}, true
	case "drop":
		return api.Command{Kind: api.CDrop, View: api.View{Name: t[0]}}, true
	case "sub":
		return api.Command{Kind: api.CSub, Filter: l.filter}, true
	case "ack":
		return api.Command{Kind: api.CAck, Sub: n[2], Pos: n[3]}, true
	case "group":
		return api.Command{Kind: api.CGroup, View: api.View{Name: t[0]}, Pos: n[2], Filter: l.filter}, true
	case "join":
		return api.Command{Kind: api.CJoin, View: api.View{Name: t[0]}}, true
	case "gone":
		return api.Command{Kind: api.CGone, View: api.View{Name: t[0]}}, true
	case "leave":
		return api.Command{Kind: api.CLeave, View: api.View{Name: t[0]}, Sub: n[2]}, true
	case "commit":
		return api.Command{Kind: api.CCommit, View: api.View{Name: t[0]}, Sub: n[2], From: n[3], Part: n[4], Pos: n[5]}, true
	}
	return api.Command{}, false
}
