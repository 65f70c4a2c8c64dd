package console

import (
	"tidemark/api"
	"tidemark/mirror"
	"tidemark/text"
)

const (
	lineEnd = '\n'
	blank   = ' '
	remark  = "#"
	// nothing stands where no nodes, or no prefix, are meant.
	nothing = "-"
	// firstWord is that of the first line that says something.
	firstWord = "mirror"
)

// script is a text as it was read: the mirror of its first line, and the others.
type script struct {
	mirror *mirror.Mirror // nil: no line said anything yet
	lines  []line
}

// read is the script that a text is; or the number of the first line that is none, and why.
func read(s string) (script, int, api.Errno) {
	if len(s) > api.MaxText {
		return script{}, 0, api.ErrLong
	}
	var p script
	for i, l := range text.Parts(s, lineEnd) {
		if l == "" || text.Begins(l, remark) {
			continue
		}
		if !p.add(l) {
			return script{}, i + 1, api.ErrLine
		}
	}
	return p, 0, api.OK
}

// add reads the next line that says something; false: it is none.
func (p *script) add(s string) bool {
	if len(s) > api.MaxLine {
		return false
	}
	parts := text.Parts(s, blank)
	if p.mirror == nil {
		m, ok := begin(parts)
		p.mirror = m
		return ok
	}
	l, ok := lineOf(parts)
	p.lines = append(p.lines, l)
	return ok
}

// begin is the mirror that the parts of the first line tell.
func begin(parts []string) (*mirror.Mirror, bool) {
	if len(parts) != 4 || parts[0] != firstWord {
		return nil, false
	}
	source, ok := nodes(parts[1])
	follower, ok1 := nodes(parts[2])
	if !ok || !ok1 {
		return nil, false
	}
	prefix := parts[3]
	if prefix == nothing {
		prefix = ""
	}
	m, e := mirror.New(api.Roster{Voters: source}, api.Roster{Voters: follower}, prefix)
	return m, e == api.OK
}
