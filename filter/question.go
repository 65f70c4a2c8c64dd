package filter

import (
	"tidemark/api"
	"tidemark/text"
)

// question is a filter that is made ready to be asked of events.
type question interface {
	holds(e api.Event) bool
}

// asked is the question that a part is which may be, over those that its kids are.
func asked(f api.Filter, kids []question) question {
	switch f.Kind {
	case api.FPrefix:
		return begins{f.Text}
	case api.FEqual:
		return equals{f.Name, f.Text}
	case api.FPut:
		return puts{}
	case api.FNot:
		return not{kids[0]}
	case api.FAnd:
		return each(kids)
	case api.FOr:
		return some(kids)
	}
	return all{}
}

type all struct{}

func (all) holds(api.Event) bool { return true }

// begins asks for keys that begin with a text.
type begins struct{ front string }

func (q begins) holds(e api.Event) bool { return text.Begins(e.Key, q.front) }

// equals asks for values that have a text in a field.
type equals struct{ name, text string }

func (q equals) holds(e api.Event) bool {
	if !e.Has {
		return false
	}
	has, ok := text.Field(e.Now, q.name)
	return ok && has == q.text
}

// puts asks for keys that are there behind the event.
type puts struct{}

func (puts) holds(e api.Event) bool { return e.Has }

type not struct{ kid question }

func (q not) holds(e api.Event) bool { return !q.kid.holds(e) }

// each holds if no kid fails, some if one does not.
type each []question

func (q each) holds(e api.Event) bool {
	for _, k := range q {
		if !k.holds(e) {
			return false
		}
	}
	return true
}

type some []question

func (q some) holds(e api.Event) bool {
	for _, k := range q {
		if k.holds(e) {
			return true
		}
	}
	return false
}
