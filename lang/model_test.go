package lang

import (
	"math/rand"
	"reflect"
	"regexp"
	"strconv"
	"strings"
	"unicode/utf8"

	"tidemark/api"
	"tidemark/filter"
)

var tokenForms = []struct {
	kind int
	form *regexp.Regexp
}{
	{1, regexp.MustCompile(`^[a-z]+`)},
	{3, regexp.MustCompile(`^-?[0-9]+`)},
	{4, regexp.MustCompile(`^[()=^<>,]`)},
	{2, regexp.MustCompile(`(?s)^"([^"\\]|\\["\\]|\\u\{[0-9a-f]{1,6}\})*"`)},
}

var escape = regexp.MustCompile(`\\(["\\]|u\{[0-9a-f]+\})`)

// modelMeans is what a text in quotes means; false, if it can't be.
func modelMeans(s string) (string, bool) {
	ok := utf8.ValidString(s)
	means := escape.ReplaceAllStringFunc(s[1:len(s)-1], func(x string) string {
		if x[1] != 'u' {
			return x[1:]
		}
		n, err := strconv.ParseUint(x[3:len(x)-1], 16, 32)
		if err != nil || n > 0x10ffff || n >= 0xd800 && n <= 0xdfff {
			ok = false
			return ""
		}
		return string(rune(n))
	})
	return means, ok
}

// modelTokens is Tokens by forms.
func modelTokens(s string) ([]api.Token, int, api.Errno) {
	var l []api.Token
next:
	for at := 0; at < len(s); {
		if s[at] == ' ' {
			at++
			continue
		}
		for _, f := range tokenForms {
			is := f.form.FindString(s[at:])
			if is == "" {
				continue
			}
			t := api.Token{Kind: f.kind, Text: is, At: at}
			if f.kind == 2 {
				means, ok := modelMeans(is)
				if !ok {
					return nil, at, 191
				}
				t.Text = means
			}
			l = append(l, t)
			at += len(is)
			continue next
		}
		if s[at] == '"' {
			return nil, at, 191
		}
		return nil, at, 190
	}
	return l, 0, 0
}

// frame is something in which filters stand: all, parentheses, any or each.
type frame struct {
	opened string
	list   []api.Filter   // any, each: what stands ahead of the last comma
	chains [][]api.Filter // what stands behind it, up to here
	nots   int            // those ahead of the part that comes
}

// model reads a filter without recursion: a stack of frames, and whether a part should come, or came.
type model struct {
	tokens []api.Token
	at     int
	stack  []*frame
}

func (m *model) top() *frame { return m.stack[len(m.stack)-1] }

func (m *model) next(i int) api.Token { return m.tokens[min(m.at+i, len(m.tokens)-1)] }

func (m *model) sign(i int, s string) bool { t := m.next(i); return t.Kind == 4 && t.Text == s }

func (m *model) open(word string) {
	m.stack = append(m.stack, &frame{opened: word, chains: [][]api.Filter{nil}})
}

// inside is how many filters and parts would stand in one another, if one began here.
func (m *model) inside() int {
	n := 0
	for _, f := range m.stack {
		n += 1 + f.nots
	}
	return n
}

// close is what a frame's chains are.
func (f *frame) close() api.Filter {
	var l []api.Filter
	for _, c := range f.chains {
		if len(c) == 1 {
			l = append(l, c[0])
		} else {
			l = append(l, api.Filter{Kind: 5, Kids: c})
		}
	}
	if len(l) == 1 {
		return l[0]
	}
	return api.Filter{Kind: 6, Kids: l}
}

// came puts a part where it came.
func (m *model) came(f api.Filter) {
	t := m.top()
	for ; t.nots > 0; t.nots-- {
		f = api.Filter{Kind: 4, Kids: []api.Filter{f}}
	}
	t.chains[len(t.chains)-1] = append(t.chains[len(t.chains)-1], f)
}

// begin goes by what begins a part; came tells whether that was a whole one.
func (m *model) begin() (came bool, e api.Errno) {
	if m.inside() > 40 {
		return false, 51
	}
	t := m.next(0)
	if m.sign(0, "(") {
		m.at++
		m.open("(")
		return false, 0
	}
	if t.Kind != 1 {
		return false, 192
	}
	m.at++
	if m.sign(0, "=") {
		return m.text(api.Filter{Kind: 2, Name: t.Text})
	}
	switch t.Text {
	case "all", "put":
		m.came(api.Filter{Kind: map[string]int{"all": 0, "put": 3}[t.Text]})
		return true, 0
	case "not":
		m.top().nots++
		return false, 0
	case "key":
		if m.sign(0, "^") {
			return m.text(api.Filter{Kind: 1})
		}
	case "any", "each":
		if !m.sign(0, "(") {
			break
		}
		m.at++
		if !m.sign(0, ")") {
			m.open(t.Text)
			return false, 0
		}
		m.at++
		m.came(api.Filter{Kind: map[string]int{"any": 6, "each": 5}[t.Text]})
		return true, 0
	}
	return false, 192
}

// text is a part of a sign and a text.
func (m *model) text(f api.Filter) (bool, api.Errno) {
	m.at++
	if m.next(0).Kind != 2 {
		return false, 192
	}
	f.Text = m.next(0).Text
	m.at++
	m.came(f)
	return true, 0
}

// behind goes by what stands behind a part; came tells whether another one ends there, too, whole that all does.
func (m *model) behind() (came, whole bool, e api.Errno) {
	t, f := m.next(0), m.top()
	word := func(s string) bool { return t.Kind == 1 && t.Text == s }
	switch {
	case word("and"):
		m.at++
		return false, false, 0
	case word("or"):
		m.at++
		f.chains = append(f.chains, nil)
		return false, false, 0
	case f.opened == "":
		return true, true, 0
	case f.opened != "(" && m.sign(0, ","):
		m.at++
		f.list, f.chains = append(f.list, f.close()), [][]api.Filter{nil}
		return false, false, 0
	case !m.sign(0, ")"):
		return false, false, 192
	}
	m.at++
	m.stack = m.stack[:len(m.stack)-1]
	g := f.close()
	if f.opened != "(" {
		g = api.Filter{Kind: map[string]int{"any": 6, "each": 5}[f.opened], Kids: append(f.list, g)}
	}
	m.came(g)
	return true, false, 0
}

// modelFilter is Filter from a token on: also how many tokens it has.
func modelFilter(tokens []api.Token, from int) (f api.Filter, size, at int, e api.Errno) {
	m := &model{tokens: tokens, at: from}
	m.open("")
	came := false
	for {
		whole := false
		if came {
			came, whole, e = m.behind()
		} else {
			came, e = m.begin()
		}
		if e != 0 {
			return api.Filter{}, 0, m.next(0).At, e
		}
		if whole {
			break
		}
	}
	f = m.top().close()
	if e := filter.Check(f); e != 0 {
		return api.Filter{}, 0, tokens[from].At, e
	}
	return f, m.at - from, 0, 0
}

func modelParse(s string) (api.Filter, int, api.Errno) {
	l, at, e := modelTokens(s)
	if e != 0 {
		return api.Filter{}, at, e
	}
	l = append(l, api.Token{At: len(s)})
	f, size, at, e := modelFilter(l, 0)
	if e == 0 && l[size].Kind != 0 {
		return api.Filter{}, l[size].At, 3
	}
	return f, at, e
}

// modelPrint is the text of a filter that may be, by the table.
func modelPrint(f api.Filter) string {
	joined := func(f api.Filter) bool { return f.Kind >= 5 && len(f.Kids) >= 2 }
	in := func(k api.Filter, yes bool) string {
		if yes {
			return "(" + modelPrint(k) + ")"
		}
		return modelPrint(k)
	}
	var l []string
	for _, k := range f.Kids {
		switch {
		case f.Kind == 6 && joined(f):
			l = append(l, in(k, joined(k) && k.Kind == 6))
		case f.Kind == 4, joined(f):
			l = append(l, in(k, joined(k)))
		default:
			l = append(l, modelPrint(k))
		}
	}
	switch f.Kind {
	case 0:
		return "all"
	case 1:
		return "key ^ " + modelQuote(f.Text)
	case 2:
		return f.Name + " = " + modelQuote(f.Text)
	case 3:
		return "put"
	case 4:
		return "not " + l[0]
	}
	if joined(f) {
		return strings.Join(l, []string{" and ", " or "}[f.Kind-5])
	}
	return []string{"each", "any"}[f.Kind-5] + "(" + strings.Join(l, "") + ")"
}

func modelQuote(s string) string {
	q := `"`
	for _, r := range s {
		switch {
		case r == '"', r == '\\':
			q += `\` + string(r)
		case r < 32, r == 127, r == 0xFFFD:
			q += `\u{` + strconv.FormatUint(uint64(r), 16) + `}`
		default:
			q += string(r)
		}
	}
	return q + `"`
}

func one(r *rand.Rand, l ...string) string { return l[r.Intn(len(l))] }

// anyFilter is one that may be, or that is too deep or too wide.
func anyFilter(r *rand.Rand, deep int) api.Filter {
	f := api.Filter{Kind: r.Intn(7)}
	switch {
	case deep == 0 && f.Kind > 3:
		f.Kind = r.Intn(4)
	case deep > 3:
		f.Kind = 4 + r.Intn(3)
	}
	kids := 0
	switch f.Kind {
	case api.FPrefix:
		f.Text = one(r, "a", "é", "a\"b", "\\", " ", "(")
	case api.FEqual:
		f.Name, f.Text = one(r, "n", "abcdefgh", "and", "or", "not", "all", "put", "key", "any", "each"), one(r, "", "1", "x y", `"`, `\u{41}`)
	case api.FNot:
		kids = 1
	case api.FAnd, api.FOr:
		kids = r.Intn(4)
	}
	for range kids {
		f.Kids = append(f.Kids, anyFilter(r, deep-1))
	}
	return f
}

func alike(a, b api.Filter) bool { return reflect.DeepEqual(a, b) }
