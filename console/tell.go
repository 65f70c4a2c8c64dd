package console

import (
	"strconv"
	"strings"

	"tidemark/api"
	"tidemark/wire"
)

// hexBase is the base of the digits that a sum is told by.
const hexBase = 16

// outcome is what is told of a step.
func outcome(e api.Errno) string {
	if e == api.OK {
		return "ok"
	}
	return told("error", digits(int(e))...)
}

// told is a word and parts, as they stand in a report.
func told(word string, parts ...string) string {
	for _, p := range parts {
		word += string(blank) + p
	}
	return word
}

// each is what stands ahead, and the parts of each of some things.
func each[T any](ahead string, l []T, parts func(T) []string) string {
	var b strings.Builder
	b.WriteString(ahead)
	for _, x := range l {
		b.WriteString(told(";", parts(x)...))
	}
	return b.String()
}

// digits are numbers as texts.
func digits(l ...int) []string {
	var out []string
	for _, n := range l {
		out = append(out, strconv.Itoa(n))
	}
	return out
}

// inside is numbers in parentheses.
func inside(l []int) string { return "(" + strings.Join(digits(l...), string(blank)) + ")" }

// bit is a yes or no as it is told.
func bit(yes bool) int {
	if yes {
		return 1
	}
	return 0
}

// spaced is a text as it is meant, of a part of a line; unspaced is it as it is told, so that it is one part.
func spaced(s string) string { return strings.ReplaceAll(s, "_", string(blank)) }

func unspaced(s string) string { return strings.ReplaceAll(s, string(blank), "_") }

func keys(l []api.Op) string {
	return each("keys", l, func(o api.Op) []string {
		return []string{unspaced(o.Key), unspaced(o.Value)}
	})
}

func rows(word string, l []api.Row, e api.Errno) string {
	if e != api.OK {
		return outcome(e)
	}
	return each(word, l, func(r api.Row) []string {
		out := []string{unspaced(r.Text), strconv.FormatInt(r.N, 10)}
		for _, key := range r.Keys {
			out = append(out, unspaced(key))
		}
		return out
	})
}

func events(word string, to int, l []api.Event, e api.Errno) string {
	if e != api.OK {
		return outcome(e)
	}
	return each(told(word, digits(to)...), l, func(v api.Event) []string {
		return append(digits(v.Pos), unspaced(v.Key), strconv.Itoa(bit(v.Has)), unspaced(v.Now))
	})
}

func plan(p api.Plan, e api.Errno) string {
	if e != api.OK {
		return outcome(e)
	}
	return told("plan", strconv.Itoa(p.Kind), p.Field, unspaced(p.Text))
}

func groups(l []api.Group) string {
	return each("groups", l, func(g api.Group) []string {
		return []string{g.Name, strconv.Itoa(g.Sub), strconv.Itoa(g.Term), inside(g.Members), inside(g.Owners), inside(g.At)}
	})
}

func calls(l []api.Call) string {
	return each("calls", l, func(k api.Call) []string {
		return digits(k.Hand, k.Command.Kind, k.Began, k.Ended, k.Index, int(k.Reply.Err), k.Reply.N, len(k.Map))
	})
}

func relay(r api.Relay) string {
	return told("knows", digits(r.Sub, r.From, r.At, bit(r.Known), r.Seen, r.To)...)
}

// state is what is told of a node, by its machine's mark and image.
func state(s api.State, mark int, image []byte) string {
	known := digits(s.Role, s.Leader, s.Hard.Term, s.Hard.Vote, s.Commit, s.Base.Index, len(s.Rows), mark, len(image))
	return told("state", append(known, strconv.FormatUint(uint64(wire.Sum(image)), hexBase))...)
}
