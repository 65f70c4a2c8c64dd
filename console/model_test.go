package console

import (
	"fmt"
	"regexp"
	"slices"
	"strconv"
	"strings"
	"sync"
	"testing"

	"tidemark/api"
	"tidemark/digest"
	"tidemark/lang"
	"tidemark/mirror"
	"tidemark/node"
	"tidemark/query"
	"tidemark/wire"
)

// table is the chapter's: the words, and what stands behind each of them.
const table = `tick start nnn
take lose double carry nn
crash nnnn
arm nnnnn
pack wall nn
hand nnn
roster nnll
open nn
put nntt
del nnt
cas nnttt
index count nntt
sum nnttt
drop nnt
sub nnf
ack nnnn
group nntnf
join gone nnt
leave nntn
commit nntnnnn
look again nnn
quit nn
relay tn
retry nn
keys state groups nn
rows nnt
feed nnnn
query plan nnq
poll nntnn
compare nn
calls way n
knows `

// form is a line of the table as an expression; its groups are the parts.
func form(word, kinds string) *regexp.Regexp {
	const n = `(?:0|[1-9][0-9]{0,5})`
	s := `(?s)^` + word
	for _, k := range kinds {
		s += " (" + map[rune]string{'n': n, 'l': "-|" + n + "(?:," + n + ")*", 't': `[^ ]*`, 'f': `.*`, 'q': `.*`}[k] + ")"
	}
	return regexp.MustCompile(s + `$`)
}

// forms is the table, by the words.
var forms = sync.OnceValue(func() map[string]*regexp.Regexp {
	out := map[string]*regexp.Regexp{}
	for _, row := range strings.Split(table, "\n") {
		l := strings.Split(row, " ")
		kinds := l[len(l)-1]
		for _, word := range l[:len(l)-1] {
			out[word] = form(word, kinds)
		}
	}
	return out
})

var firstForm = form("mirror", "llt")

// model is a console, told as the chapter does.
type model struct {
	t     *testing.T
	forms map[string]*regexp.Regexp
	m     *mirror.Mirror
	a     []string // the parts behind the word
}

func newModel(t *testing.T) *model { return &model{t: t, forms: forms()} }

// first tells whether a line is the first one, and begins.
func (x *model) first(s string) bool {
	l := firstForm.FindStringSubmatch(s)
	if l == nil {
		return false
	}
	if l[3] == "-" {
		l[3] = ""
	}
	m, e := mirror.New(api.Roster{Voters: ints(l[1])}, api.Roster{Voters: ints(l[2])}, l[3])
	x.m = m
	return e == api.OK
}

func ints(s string) []int {
	var l []int
	if s == "-" {
		return nil
	}
	for _, p := range strings.Split(s, ",") {
		n, _ := strconv.Atoi(p)
		l = append(l, n)
	}
	return l
}

// line tells whether a line is one.
func (x *model) line(s string) bool {
	word, _, _ := strings.Cut(s, " ")
	f := x.forms[word]
	if f == nil {
		return false
	}
	x.a = f.FindStringSubmatch(s)
	if x.a == nil {
		return false
	}
	x.a = x.a[1:]
	switch word {
	case "carry":
		return x.n(1) <= 200
	case "sub", "group":
		_, _, e := lang.Parse(x.a[len(x.a)-1])
		return e == api.OK
	case "query", "plan":
		_, _, e := query.Parse(x.a[2])
		return e == api.OK
	}
	return true
}

// check is P23.1.
func (x *model) check(s string) (int, api.Errno) {
	if len(s) > 32768 {
		return 0, 4
	}
	begun := false
	for i, l := range strings.Split(s, "\n") {
		if l == "" || l[0] == '#' {
			continue
		}
		if len(l) > 512 || !begun && !x.first(l) || begun && !x.line(l) {
			return i + 1, 170
		}
		begun = true
	}
	return 0, 0
}

// run is P23.2.
func (x *model) run(s string) (string, int, api.Errno) {
	if at, e := x.check(s); e != 0 {
		return "", at, e
	}
	begun, out := false, ""
	for _, l := range strings.Split(s, "\n") {
		switch {
		case l == "" || l[0] == '#':
		case !begun:
			begun = x.first(l)
		default:
			out += x.answer(l) + "\n"
		}
	}
	return out, 0, 0
}

func (x *model) n(i int) int {
	n, e := strconv.Atoi(x.a[i])
	if e != nil {
		x.t.Fatal(e)
	}
	return n
}

func (x *model) s(i int) string { return strings.ReplaceAll(x.a[i], "_", " ") }

// do is a move.
func (x *model) do(v api.Move) string {
	if e := x.m.Move(v); e != 0 {
		return fmt.Sprint("error ", int(e))
	}
	return "ok"
}

func (x *model) step(s api.Step) string {
	return x.do(api.Move{Kind: api.RCluster, Side: x.n(0), Step: s})
}

func (x *model) ask(c api.Command) string {
	return x.do(api.Move{Kind: api.RCluster, Step: api.Step{Kind: api.SAsk, Hand: x.n(0), Node: x.n(1), Command: c}})
}

// answer is what a line answers that is one.
func (x *model) answer(s string) string {
	if !x.line(s) {
		x.t.Fatalf("no line: %q", s)
	}
	word, _, _ := strings.Cut(s, " ")
	put := func(i, j int) []api.Op { return []api.Op{{Key: x.s(i), Has: true, Value: x.s(j)}} }
	kinds := map[string]int{"tick": 4, "start": 10, "take": 5, "lose": 6, "double": 7, "crash": 8, "arm": 9, "pack": 11, "wall": 14, "hand": 13, "roster": 12, "again": 2, "quit": 3, "drop": 5, "join": 13, "gone": 16, "leave": 14, "index": 1, "count": 2}
	kind := kinds[word]
	switch word {
	case "tick", "start":
		return x.step(api.Step{Kind: kind, Node: x.n(1), Timeout: x.n(2)})
	case "take", "lose", "double", "wall":
		return x.step(api.Step{Kind: kind, N: x.n(1)})
	case "crash":
		return x.step(api.Step{Kind: kind, Node: x.n(1), Keep: x.n(2), Tear: x.n(3)})
	case "arm":
		return x.step(api.Step{Kind: kind, Node: x.n(1), N: x.n(2), Keep: x.n(3), Tear: x.n(4)})
	case "pack":
		return x.step(api.Step{Kind: kind, Node: x.n(1)})
	case "hand":
		return x.step(api.Step{Kind: kind, Node: x.n(1), Other: x.n(2)})
	case "roster":
		return x.step(api.Step{Kind: kind, Node: x.n(1), Roster: api.Roster{Voters: ints(x.a[2]), Learners: ints(x.a[3])}})
	case "look":
		return x.step(api.Step{Kind: api.SAsk, Hand: x.n(1), Node: x.n(2)})
	case "again":
		return x.step(api.Step{Kind: kind, Hand: x.n(1), Node: x.n(2)})
	case "quit":
		return x.step(api.Step{Kind: kind, Hand: x.n(1)})
	case "open":
		return x.ask(api.Command{Kind: api.COpen})
	case "put":
		return x.ask(api.Command{Kind: api.CWrite, Ops: put(2, 3)})
	case "del":
		return x.ask(api.Command{Kind: api.CWrite, Ops: []api.Op{{Key: x.s(2)}}})
	case "cas":
		return x.ask(api.Command{Kind: api.CWrite, Conds: put(2, 3), Ops: put(2, 4)})
	case "index", "count":
		return x.ask(api.Command{Kind: api.CView, View: api.View{Name: x.s(2), Kind: kind, Field: x.s(3)}})
	case "sum":
		return x.ask(api.Command{Kind: api.CView, View: api.View{Name: x.s(2), Kind: api.VSum, Field: x.s(3), Of: x.s(4)}})
	case "drop", "join", "gone":
		return x.ask(api.Command{Kind: kind, View: api.View{Name: x.s(2)}})
	case "leave":
		return x.ask(api.Command{Kind: kind, View: api.View{Name: x.s(2)}, Sub: x.n(3)})
	case "sub":
		f, _, _ := lang.Parse(x.a[2])
		return x.ask(api.Command{Kind: api.CSub, Filter: f})
	case "group":
		f, _, _ := lang.Parse(x.a[4])
		return x.ask(api.Command{Kind: api.CGroup, View: api.View{Name: x.s(2)}, Pos: x.n(3), Filter: f})
	case "ack":
		return x.ask(api.Command{Kind: api.CAck, Sub: x.n(2), Pos: x.n(3)})
	case "commit":
		return x.ask(api.Command{Kind: api.CCommit, View: api.View{Name: x.s(2)}, Sub: x.n(3), From: x.n(4), Part: x.n(5), Pos: x.n(6)})
	case "relay":
		for i, what := range []string{2: "forget", "open", "sub", "look", "reset", "pull", "push", "ack", "learn", 12: "drop"} {
			if what == x.s(0) && i >= 2 && i != 11 {
				return x.do(api.Move{Kind: i, Node: x.n(1)})
			}
		}
		return "error 151"
	case "retry":
		return x.do(api.Move{Kind: api.RAgain, Side: x.n(0), Node: x.n(1)})
	}
	return x.tells(word)
}

func yes(b bool) int {
	if b {
		return 1
	}
	return 0
}

func esc(s string) string { return strings.ReplaceAll(s, " ", "_") }

// wrong is an error; none: it is none.
func wrong(e api.Errno) string {
	if e == 0 {
		return ""
	}
	return fmt.Sprintf("error %d", int(e))
}

// tells is what a line answers that is no step.
func (x *model) tells(word string) string {
	if word == "knows" {
		r := x.m.Relay()
		return fmt.Sprintf("knows %d %d %d %d %d %d", r.Sub, r.From, r.At, yes(r.Known), r.Seen, r.To)
	}
	if word == "compare" {
		return x.compares(x.m.Side(0).Node(x.n(0)), x.m.Side(1).Node(x.n(1)))
	}
	if x.n(0) > 1 {
		return "error 151"
	}
	c := x.m.Side(x.n(0))
	switch word {
	case "carry":
		for i := 0; i < x.n(1) && len(c.Waiting()) > 0; i++ {
			x.step(api.Step{Kind: api.STake, N: c.Waiting()[0]})
		}
		return "ok"
	case "calls":
		out := "calls"
		for _, k := range c.Calls() {
			out += fmt.Sprintf("; %d %d %d %d %d %d %d %d", k.Hand, k.Command.Kind, k.Began, k.Ended, k.Index, int(k.Reply.Err), k.Reply.N, len(k.Map))
		}
		return out
	case "way":
		return strings.TrimSpace("way " + strings.Trim(fmt.Sprint(c.Waiting()), "[]"))
	}
	if n := c.Node(x.n(1)); n != nil {
		return x.asks(word, n)
	}
	return "error 150"
}

func (x *model) compares(a, b *node.Node) string {
	if a == nil || b == nil {
		return "error 150"
	}
	var trees [2]*digest.Tree
	for i, n := range []*node.Node{a, b} {
		var l []api.Pair
		for _, o := range n.Machine().Keys("", "") {
			l = append(l, api.Pair{Key: o.Key, Value: o.Value})
		}
		trees[i] = digest.Of(api.Seed{}, l...)
	}
	l, talk, _ := digest.Unlike(trees[0], trees[1])
	return esc2(fmt.Sprintf("compare %d %d", talk.Digests, talk.Pairs), l)
}

// esc2 is some keys behind what stands ahead, with semicolons.
func esc2(ahead string, l []string) string {
	for _, key := range l {
		ahead += "; " + esc(key)
	}
	return ahead
}

// asks is what a node answers.
func (x *model) asks(word string, n *node.Node) string {
	m := n.Machine()
	switch word {
	case "keys":
		out := "keys"
		for _, o := range m.Keys("", "") {
			out += "; " + esc(o.Key) + " " + esc(o.Value)
		}
		return out
	case "state":
		s := n.State()
		return fmt.Sprintf("state %d %d %d %d %d %d %d %d %d %x", s.Role, s.Leader, s.Hard.Term, s.Hard.Vote, s.Commit, s.Base.Index, len(s.Rows), m.Mark(), len(m.Image()), wire.Sum(m.Image()))
	case "groups":
		out := "groups"
		for _, g := range m.Groups() {
			out += fmt.Sprintf("; %s %d %d %v %v %v", g.Name, g.Sub, g.Term, g.Members, g.Owners, g.At)
		}
		return strings.NewReplacer("[", "(", "]", ")").Replace(out)
	case "feed", "poll":
		read := func() ([]api.Event, int, api.Errno) { return m.Read(x.n(2), x.n(3), 100) }
		if word == "poll" {
			read = func() ([]api.Event, int, api.Errno) { return m.Poll(x.s(2), x.n(3), x.n(4), 100) }
		}
		l, to, e := read()
		out := fmt.Sprintf("%s %d", word, to)
		for _, v := range l {
			out += fmt.Sprintf("; %d %s %d %s", v.Pos, esc(v.Key), yes(v.Has), esc(v.Now))
		}
		if e != 0 {
			return wrong(e)
		}
		return out
	case "rows":
		l, e := m.Rows(x.s(2))
		return x.rows(word, l, e)
	}
	q, _, _ := query.Parse(x.a[2])
	l, p, e := query.Ask(q, m)
	if word == "plan" && e == 0 {
		return fmt.Sprintf("plan %d %s %s", p.Kind, p.Field, esc(p.Text))
	}
	return x.rows(word, l, e)
}

func (x *model) rows(word string, l []api.Row, e api.Errno) string {
	if e != 0 {
		return wrong(e)
	}
	for _, r := range l {
		word += fmt.Sprintf("; %s %d", esc(r.Text), r.N)
		for _, k := range r.Keys {
			word += " " + esc(k)
		}
	}
	return word
}

// same holds that a text is checked, and played, as the model does.
func same(t *testing.T, s string) (report string) {
	t.Helper()
	x := newModel(t)
	at, e := x.check(s)
	if n, got := Check(s); n != at || got != e {
		t.Fatalf("%.300q: line %d, error %d, not %d, %d", s, n, got, at, e)
	}
	want, at, e := x.run(s)
	report, n, got := Run(s)
	if n != at || got != e {
		t.Fatalf("%.300q: line %d, error %d, not %d, %d", s, n, got, at, e)
	}
	alike(t, report, want)
	return report
}

// alike holds that two reports are.
func alike(t *testing.T, got, want string) {
	t.Helper()
	a, b := strings.Split(got, "\n"), strings.Split(want, "\n")
	for i := range min(len(a), len(b)) {
		if a[i] != b[i] {
			t.Fatalf("answer %d: %.300q, not %.300q", i+1, a[i], b[i])
		}
	}
	if !slices.Equal(a, b) {
		t.Fatalf("%d answers, not %d", len(a), len(b))
	}
}
