package mirror

import (
	"slices"

	"tidemark/api"
	"tidemark/text"
)

// known is what the relay may forget at any time: it can ask for all of it anew.
type known struct {
	sub   int         // its subscriber; 0: none
	from  int         // where that began
	at    int         // up to where the mirror is; 0: it does not know
	seen  api.Call    // a look at the source; Index 0: it saw nothing
	batch api.Command // what it would have applied; Pos 0: nothing
}

// relay is what carries the source's changes over.
type relay struct {
	known
	prefix string
	asked  [sides]int // of which kind its call of each side is, that it did not heed yet; 0: none
}

// filter is what of the source's changes it wants.
func (r *relay) filter() api.Filter {
	if r.prefix == "" {
		return api.Filter{Kind: api.FAll}
	}
	return api.Filter{Kind: api.FPrefix, Text: r.prefix}
}

// wanted is what a move has it ask, and of which side; false: it can't ask that now.
func (r *relay) wanted(kind int) (c api.Command, side int, ok bool) {
	switch kind {
	case api.ROpen:
		return api.Command{Kind: api.COpen}, sourceSide, true
	case api.RSub:
		return api.Command{Kind: api.CSub, Filter: r.filter()}, sourceSide, true
	case api.RLook:
		return api.Command{Kind: api.CNone}, sourceSide, true
	case api.RAck:
		return api.Command{Kind: api.CAck, Sub: r.sub, Pos: r.at}, sourceSide, r.sub > 0 && r.at > 0
	case api.RDrop:
		return api.Command{Kind: api.CUnsub, Sub: r.sub}, sourceSide, r.sub > 0
	case api.RReset:
		// A look from ahead of where the subscriber began would leave out what changed between the two.
		return r.reset(), mirrorSide, r.sub > 0 && r.seen.Index > 0 && r.seen.Index >= r.from
	case api.RPush:
		return r.batch, mirrorSide, r.batch.Pos > 0
	case api.RLearn:
		return api.Command{Kind: api.CNone}, mirrorSide, true
	}
	return api.Command{}, 0, false
}

// reset is that the mirror is to be what the relay saw.
func (r *relay) reset() api.Command {
	ops := slices.DeleteFunc(slices.Clone(r.seen.Map), func(o api.Op) bool { return !text.Begins(o.Key, r.prefix) })
	return api.Command{Kind: api.CReset, Pos: r.seen.Index, Ops: ops}
}

// fill makes a batch of what the source changed up to a place.
func (r *relay) fill(to int, l []api.Event) {
	r.batch = api.Command{Kind: api.CApply, From: r.at, Pos: to}
	for _, e := range l {
		r.batch.Ops = append(r.batch.Ops, api.Op{Key: e.Key, Has: e.Has, Value: e.Now})
	}
}

// learn takes what came of a call.
func (r *relay) learn(kind int, k api.Call) {
	switch kind {
	case api.RSub:
		if k.Reply.Err == api.OK {
			r.known = known{sub: k.Reply.N, from: k.Index}
		}
	case api.RLook:
		r.seen = k
	case api.RDrop:
		r.known = known{}
	case api.RReset:
		r.seen = api.Call{}
		r.follows(k.Reply.N)
	case api.RPush, api.RLearn:
		r.follows(k.Reply.N)
	}
}

// follows notes up to where the mirror is; a batch that it had began somewhere else, or was done.
func (r *relay) follows(mark int) { r.at, r.batch = mark, api.Command{} }
