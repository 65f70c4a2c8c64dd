package console

import (
	"strings"

	"tidemark/api"
	"tidemark/lang"
	"tidemark/query"
	"tidemark/text"
)

const (
	comma = ','
	// mostDigits is how many bytes a number has at most.
	mostDigits = 6
)

// Kinds of what stands behind a word.
const (
	aNumber   = 'n'
	aCount    = 'c' // a number of messages, of which no more are on their way
	someNodes = 'l'
	aText     = 't'
	aFilter   = 'f'
	aQuestion = 'q'
)

// words is all words, and of each what stands behind it, a rune for each part.
var words = [...]struct{ word, behind string }{
	{"tick", "nnn"}, {"start", "nnn"},
	{"take", "nn"}, {"lose", "nn"}, {"double", "nn"},
	{"carry", "nc"},
	{"crash", "nnnn"}, {"arm", "nnnnn"},
	{"pack", "nn"}, {"wall", "nn"}, {"hand", "nnn"},
	{"roster", "nnll"},
	{"open", "nn"}, {"put", "nntt"}, {"del", "nnt"},
	{"cas", "nnttt"},
	{"index", "nntt"}, {"count", "nntt"}, {"sum", "nnttt"},
	{"drop", "nnt"}, {"sub", "nnf"}, {"ack", "nnnn"},
	{"group", "nntnf"},
	{"join", "nnt"}, {"gone", "nnt"}, {"leave", "nntn"},
	{"commit", "nntnnnn"},
	{"look", "nnn"}, {"again", "nnn"}, {"quit", "nn"},
	{"relay", "tn"},
	{"retry", "nn"},
	{"keys", "nn"}, {"state", "nn"}, {"groups", "nn"}, {"rows", "nnt"}, {"feed", "nnnn"},
	{"query", "nnq"}, {"plan", "nnq"}, {"poll", "nntnn"},
	{"compare", "nn"},
	{"calls", "n"}, {"way", "n"}, {"knows", ""},
}

// line is a word, and what stands behind it, each kind of that in its order.
type line struct {
	word     string
	numbers  []int
	texts    []string
	nodes    [][]int
	filter   api.Filter
	question api.Query
}

// lineOf is the line that parts are; false: they are none.
func lineOf(parts []string) (line, bool) {
	l := line{word: parts[0]}
	kinds, ok := behind(l.word)
	if !ok {
		return line{}, false
	}
	rest := parts[1:]
	for _, kind := range kinds {
		n := 1
		if kind == aFilter || kind == aQuestion {
			n = len(rest)
		}
		if n > len(rest) || !l.take(kind, strings.Join(rest[:n], string(blank))) {
			return line{}, false
		}
		rest = rest[n:]
	}
	return l, len(rest) == 0
}

// behind is what stands behind a word; false: it is none.
func behind(word string) (string, bool) {
	for _, w := range words {
		if w.word == word {
			return w.behind, true
		}
	}
	return "", false
}

// take takes what stands next behind the word; false: it is nothing of that kind.
func (l *line) take(kind rune, s string) bool {
	switch kind {
	case aNumber, aCount:
		n, ok := number(s)
		l.numbers = append(l.numbers, n)
		return ok && (kind == aNumber || n <= api.MaxBag)
	case someNodes:
		some, ok := nodes(s)
		l.nodes = append(l.nodes, some)
		return ok
	case aFilter:
		f, _, e := lang.Parse(s)
		l.filter = f
		return e == api.OK
	case aQuestion:
		q, _, e := query.Parse(s)
		l.question = q
		return e == api.OK
	case aText:
		l.texts = append(l.texts, spaced(s))
		return true
	}
	return false
}

// number is the number that a part is.
func number(s string) (int, bool) {
	n, e := text.Number(s)
	if e != api.OK || n < 0 || len(s) > mostDigits {
		return 0, false
	}
	return int(n), true
}

// nodes is the nodes that a part tells.
func nodes(s string) ([]int, bool) {
	if s == nothing {
		return nil, true
	}
	var l []int
	for _, part := range text.Parts(s, comma) {
		n, ok := number(part)
		if !ok {
			return nil, false
		}
		l = append(l, n)
	}
	return l, true
}
