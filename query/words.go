package query

import (
	"strconv"
	"strings"

	"tidemark/api"
	"tidemark/lang"
	"tidemark/text"
)

// kindWords is the word of each kind of questions.
var kindWords = [...]string{api.QKeys: "keys", api.QCount: "count", api.QSum: "sum", api.QLeast: "least", api.QTop: "top"}

// The words that stand ahead of what else a question has.
const (
	whereWord = "where"
	byWord    = "by"
	downWord  = "down"
	skipWord  = "skip"
	firstWord = "first"
)

// reader reads a question. Like lang's, what it calls leaves the token that can't stand there as the next one.
type reader struct {
	*lang.Source
	q api.Query
}

// Parse is the question that a text is.
func Parse(s string) (api.Query, int, api.Errno) {
	tokens, at, e := lang.Read(s)
	if e != api.OK {
		return api.Query{}, at, e
	}
	r := &reader{Source: tokens}
	at, e = r.question()
	if e == api.OK {
		e = Check(r.q)
	}
	if e != api.OK {
		return api.Query{}, at, e
	}
	return r.q, 0, api.OK
}

// question reads all: at an error where that stands.
func (r *reader) question() (int, api.Errno) {
	if e := r.kind(); e != api.OK {
		return r.Peek().At, e
	}
	if r.Is(api.TWord, whereWord) {
		f, at, e := r.Filter()
		if e != api.OK {
			return at, e
		}
		r.q.Where = f
	}
	if e := r.rest(); e != api.OK {
		return r.Peek().At, e
	}
	if t := r.Peek(); t.Kind != api.TEnd {
		return t.At, api.ErrMore
	}
	return 0, api.OK
}

// kind reads what is asked for.
func (r *reader) kind() api.Errno {
	for kind, word := range kindWords {
		if !r.Is(api.TWord, word) {
			continue
		}
		r.q.Kind = kind
		if ofNumbers(kind) {
			return r.field(&r.q.Of)
		}
		return api.OK
	}
	return api.ErrWord
}

// rest reads what stands behind the filter, each if it is there.
func (r *reader) rest() api.Errno {
	if r.Is(api.TWord, byWord) {
		if e := r.field(&r.q.By); e != api.OK {
			return e
		}
	}
	r.q.Down = r.Is(api.TWord, downWord)
	if r.Is(api.TWord, skipWord) {
		if e := r.number(&r.q.Skip); e != api.OK {
			return e
		}
	}
	if r.Is(api.TWord, firstWord) {
		return r.number(&r.q.First)
	}
	return api.OK
}

// field takes a word, whichever it is.
func (r *reader) field(to *string) api.Errno {
	if r.Peek().Kind != api.TWord {
		return api.ErrWord
	}
	*to = r.Take().Text
	return api.OK
}

// number takes a number that counts rows.
func (r *reader) number(to *int) api.Errno {
	t := r.Peek()
	n, e := text.Number(t.Text)
	if t.Kind != api.TNum || e != api.OK || n < 1 || n > api.MaxIndex {
		return api.ErrWord
	}
	*to = int(n)
	r.Take()
	return api.OK
}

// Print is the text of a question.
func Print(q api.Query) (string, api.Errno) {
	if e := Check(q); e != api.OK {
		return "", e
	}
	l := []string{kindWords[q.Kind]}
	if q.Of != "" {
		l = append(l, q.Of)
	}
	if q.Where.Kind != api.FAll {
		where, _ := lang.Print(q.Where) // no question that can be has a filter that may not
		l = append(l, whereWord, where)
	}
	if q.By != "" {
		l = append(l, byWord, q.By)
	}
	if q.Down {
		l = append(l, downWord)
	}
	if q.Skip > 0 {
		l = append(l, skipWord, strconv.Itoa(q.Skip))
	}
	if q.First > 0 {
		l = append(l, firstWord, strconv.Itoa(q.First))
	}
	return strings.Join(l, " "), api.OK
}
