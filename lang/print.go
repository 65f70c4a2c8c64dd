package lang

import (
	"strings"

	"tidemark/api"
	"tidemark/filter"
)

// Print is the text of a filter.
func Print(f api.Filter) (string, api.Errno) {
	if e := filter.Check(f); e != api.OK {
		return "", e
	}
	return told(f), api.OK
}

// binds is how closely the text of a filter binds.
func binds(f api.Filter) int {
	switch {
	case len(f.Kids) < 2:
		return alone
	case f.Kind == api.FOr:
		return byOr
	}
	return byAnd
}

// told is the text of a filter that may be.
func told(f api.Filter) string {
	switch f.Kind {
	case api.FPrefix:
		return "key ^ " + Quote(f.Text)
	case api.FEqual:
		return f.Name + " = " + Quote(f.Text)
	case api.FPut:
		return "put"
	case api.FNot:
		return "not " + kid(f.Kids[0], byAnd)
	case api.FAnd:
		return kids("each", f)
	case api.FOr:
		return kids("any", f)
	}
	return "all"
}

// kid is the text of a filter in one that binds so closely.
func kid(f api.Filter, outer int) string {
	if binds(f) > outer {
		return told(f)
	}
	return "(" + told(f) + ")"
}

// kids is the text of a filter of several kids; of one, or none, a word tells which it is.
func kids(word string, f api.Filter) string {
	bind := binds(f)
	if bind != alone {
		var l []string
		for _, k := range f.Kids {
			l = append(l, kid(k, bind))
		}
		between, _ := joint(bind)
		return strings.Join(l, " "+between+" ")
	}
	inner := ""
	for _, k := range f.Kids {
		inner += told(k)
	}
	return word + "(" + inner + ")"
}
