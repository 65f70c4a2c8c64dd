package machine

import (
	"slices"

	"tidemark/api"
	"tidemark/filter"
	"tidemark/group"
	"tidemark/kv"
	"tidemark/text"
	"tidemark/views"
)

// Counts tells whether a command of a kind is one of a session's.
func Counts(kind int) bool {
	switch kind {
	case api.CWrite, api.CClose, api.CView, api.CDrop, api.CSub, api.CAck, api.CUnsub:
		return true
	case api.CGroup, api.CJoin, api.CLeave, api.CCommit, api.CGone:
		return true
	}
	return false
}

// Check tells whether a command may be.
func Check(c api.Command) api.Errno {
	if c.Kind < api.CNone || c.Kind > api.CGone || !inRange(c) || !bare(rest(c)) {
		return api.ErrCommand
	}
	return fitting(c)
}

// inRange tells whether a command's numbers may be, and whether it has a session's just where its kind counts.
func inRange(c api.Command) bool {
	for _, n := range [...]int{c.Session, c.Seq, c.Sub, c.Pos, c.From, c.Part} {
		if n < 0 || n > api.MaxIndex {
			return false
		}
	}
	if Counts(c.Kind) {
		return c.Session > 0 && c.Seq > 0
	}
	return c.Session == 0 && c.Seq == 0
}

// rest is a command without what its kind has.
func rest(c api.Command) api.Command {
	switch c.Kind {
	case api.CWrite:
		c.Conds, c.Ops = nil, nil
	case api.CView:
		c.View = api.View{}
	case api.CDrop, api.CJoin, api.CGone:
		c.View.Name = ""
	case api.CSub:
		c.Filter = api.Filter{}
	case api.CAck:
		c.Sub, c.Pos = 0, 0
	case api.CUnsub:
		c.Sub = 0
	case api.CRoster:
		c.Roster = api.Roster{}
	case api.CGroup:
		c.View.Name, c.Pos, c.Filter = "", 0, api.Filter{}
	case api.CLeave:
		c.View.Name, c.Sub = "", 0
	case api.CCommit:
		c.View.Name, c.Sub, c.From, c.Part, c.Pos = "", 0, 0, 0, 0
	case api.CApply:
		c.From, c.Pos, c.Ops = 0, 0, nil
	case api.CReset:
		c.Pos, c.Ops = 0, nil
	}
	return c
}

// bare tells whether a command, but for its kind and its session's numbers, is zero.
func bare(c api.Command) bool {
	numbers := [...]int{c.Sub, c.Pos, c.From, c.Part}
	lists := len(c.Conds) + len(c.Ops) + len(c.Roster.Voters) + len(c.Roster.Learners)
	return numbers == [4]int{} && lists == 0 && c.View == (api.View{}) && nothing(c.Filter)
}

// nothing tells whether a filter is zero.
func nothing(f api.Filter) bool {
	return f.Kind == 0 && f.Name == "" && f.Text == "" && len(f.Kids) == 0
}

// fitting tells whether what a command of its kind has may be.
func fitting(c api.Command) api.Errno {
	switch c.Kind {
	case api.CWrite:
		return kv.Check(c.Conds, c.Ops)
	case api.CView:
		return views.Check(c.View)
	case api.CDrop:
		return text.Name(c.View.Name)
	case api.CSub:
		return filter.Check(c.Filter)
	case api.CRoster:
		return fittingRoster(c.Roster)
	case api.CGroup:
		if e := group.Check(c.View.Name, c.Pos); e != api.OK {
			return e
		}
		return filter.Check(c.Filter)
	case api.CJoin, api.CLeave, api.CCommit, api.CGone:
		if text.Name(c.View.Name) != api.OK {
			return api.ErrGroup
		}
	case api.CApply:
		return fittingBatch(c)
	case api.CReset:
		if c.Pos < 1 {
			return api.ErrCommand
		}
		return kv.New().Set(c.Ops)
	}
	return api.OK
}

func fittingRoster(r api.Roster) api.Errno {
	for _, l := range [...][]int{r.Voters, r.Learners} {
		if len(l) > api.MaxNodes || slices.ContainsFunc(l, func(n int) bool { return n < 0 || n >= api.MaxNodes }) {
			return api.ErrRoster
		}
	}
	return api.OK
}

func fittingBatch(c api.Command) api.Errno {
	if c.Pos <= c.From {
		return api.ErrCommand
	}
	if len(c.Ops) > api.MaxEvents {
		return api.ErrOps
	}
	for _, o := range c.Ops {
		if e := kv.Check(nil, []api.Op{o}); e != api.OK {
			return e
		}
	}
	return api.OK
}
