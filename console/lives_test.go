package console

import (
	"fmt"
	"math/rand"
	"slices"
	"strconv"
	"strings"
	"sync"
	"testing"

	"tidemark/api"
	"tidemark/cluster"
)

// life writes a random text, line by line, by what a model of it is at.
type life struct {
	t    *testing.T
	r    *rand.Rand
	x    *model
	text []string
	seen map[string]int
}

func newLife(t *testing.T, seed int64, seen map[string]int) *life {
	t.Helper()
	l := &life{t: t, r: rand.New(rand.NewSource(seed)), x: newModel(t), seen: seen}
	first := "mirror " + l.pick("0", "0,1,2", "2,0", "4,3,1", "0,1,2,3,4") + " " + l.pick("0", "1,0,2", "3,4") + " " + l.pick("-", "-", "a", "b")
	if !l.x.first(first) {
		t.Fatal(first)
	}
	l.text = append(l.text, first)
	return l
}

func (l *life) pick(some ...string) string { return some[l.r.Intn(len(some))] }

// often is something, but in one of so many cases some other number.
func (l *life) often(n, rare int) int {
	if l.r.Intn(rare) == 0 {
		return []int{0, 1, 2, 3, 4, 5, 9, 999998}[l.r.Intn(8)]
	}
	return n
}

func (l *life) side() int { return l.often(l.r.Intn(2), 60) }

func (l *life) hand() int { return l.often(l.r.Intn(2), 60) }

func (l *life) cluster(side int) *cluster.Cluster { return l.x.m.Side(min(side, 1)) }

// node is often the one that leads a side.
func (l *life) node(side int) int {
	if at := l.leader(side); at >= 0 {
		return l.often(at, 12)
	}
	return l.often(l.r.Intn(api.MaxNodes), 12)
}

// say writes a line; what it answers.
func (l *life) say(parts ...any) string {
	l.t.Helper()
	s := strings.TrimSuffix(fmt.Sprintln(parts...), "\n")
	answer := l.x.answer(s)
	l.text = append(l.text, s)
	kind, _, _ := strings.Cut(answer, " ")
	switch {
	case kind == "error":
		kind = answer
	case strings.Contains(answer, ";"):
		kind = strings.TrimSuffix(kind, ";") + " some"
	}
	word := fmt.Sprint(parts[0])
	if word == "relay" {
		word += fmt.Sprint(" ", parts[1])
	}
	l.seen[word+": "+kind]++
	return answer
}

// leader is a node of a side that leads; below 0: none does.
func (l *life) leader(side int) int {
	at, term := -1, -1
	for i := range api.MaxNodes {
		if n := l.cluster(side).Node(i); n != nil && n.State().Role == api.Leading && n.State().Hard.Term > term {
			at, term = i, n.State().Hard.Term
		}
	}
	return at
}

// lead has all nodes of a side run, and one lead.
func (l *life) lead(side int) {
	l.say("wall", side, 0)
	for i := range api.MaxNodes {
		if l.cluster(side).Node(i) == nil {
			l.say("start", side, i, 9)
		}
	}
	for _, i := range l.r.Perm(api.MaxNodes) {
		for range 10 {
			if l.leader(side) >= 0 {
				return
			}
			n := l.cluster(side).Node(i)
			if n == nil || !slices.Contains(n.State().Base.Roster.Voters, i) {
				break
			}
			l.say("tick", side, i, 9)
			l.say("carry", side, 30)
		}
	}
}

// some is a line that is often of use.
func (l *life) some() {
	r := l.r
	side := l.side()
	switch a := r.Intn(100); {
	case a < 25:
		l.say("carry", side, r.Intn(12))
	case a < 30:
		l.say("tick", side, l.node(side), 1+r.Intn(9))
	case a < 36:
		l.message(side)
	case a < 39:
		l.trouble(side)
	case a < 58:
		l.client()
		l.come(0)
	case a < 60:
		l.other()
	case a < 78:
		l.relay()
	default:
		l.asks(side)
	}
}

// come has the messages of a side come, most of the time.
func (l *life) come(side int) {
	if l.r.Intn(6) > 0 {
		l.say("carry", side, 30)
	}
}

func (l *life) message(side int) {
	id := l.r.Intn(99)
	if way := l.cluster(side).Waiting(); len(way) > 0 && l.r.Intn(9) > 0 {
		id = way[min(l.r.Intn(len(way)), 3)]
	}
	l.say(l.pick("take", "take", "take", "lose", "double"), side, id)
}

func (l *life) trouble(side int) {
	r := l.r
	at := l.node(side)
	switch r.Intn(9) {
	case 0:
		l.say("crash", side, at, r.Intn(4), r.Intn(40))
	case 1:
		l.say("arm", side, at, r.Intn(9), r.Intn(4), r.Intn(40))
	case 2, 3:
		for i := range api.MaxNodes {
			l.say("start", side, i, 1+r.Intn(9))
		}
	case 4:
		l.say("wall", side, []int{0, 0, r.Intn(32), 999999}[r.Intn(4)])
	case 5:
		l.say("pack", side, at)
	case 6:
		l.say("hand", side, at, l.often(r.Intn(5), 9))
	case 7:
		l.say("roster", side, at, l.pick("0", "0,1", "0,1,2", "2,0,1", "-"), l.pick("-", "3", "3,4", "9"))
	default:
		l.lead(side % 2)
	}
}

func (l *life) key() string { return l.pick("a", "a_b", "b", "b1", "c_", "ä;", "_", "") }

func (l *life) value() string {
	return l.pick("n:"+strconv.Itoa(l.r.Intn(99)), "g:x_n:-5", "g:y_n:9223372036854775807", "g:y", "", "x_g:z", "n:x_;", "€_€", "g:_n:7")
}

func (l *life) filter() string {
	return l.pick("all", "put", `key ^ "a"`, `g = "x" or not put`, `each( key ^ "b", put )`, ` any()  `, `n = "5"`)
}

func (l *life) question() string {
	return l.pick("keys", "count", "count by g", "sum n by g down", "sum n", "least n", "top n by g", `keys where g = "y" by n down first 2`, `keys where key ^ "a" skip 1`, `count where g = "x y"`, `keys where key ^ "a b" and g = "x"`)
}

// client is what a client of the source wants.
func (l *life) client() {
	r := l.r
	h, at := l.hand(), l.node(0)
	name, group := l.pick("v", "w", "v", "longnames"), l.pick("g", "h", "g", "_")
	many := func(n int) int { return l.often(r.Intn(n), 20) }
	if l.waits(h) {
		l.say("again", 0, h, at)
		return
	}
	if l.say("put", h, at, l.key(), l.value()) == "error 151" {
		l.say("open", h, at)
	}
	l.come(0)
	switch r.Intn(34) {
	case 0:
		l.say("open", h, at)
	case 1, 2, 3, 4:
		l.say("del", h, at, l.key())
	case 5, 6:
		l.say("cas", h, at, l.key(), l.value(), l.value())
	case 7:
		l.say("index", h, at, name, l.pick("g", "n", "_"))
	case 8:
		l.say("count", h, at, l.pick("x", "y"), "g")
	case 9:
		l.say("sum", h, at, name, "g", "n")
	case 10:
		if r.Intn(3) == 0 {
			l.say("drop", h, at, name)
		}
	case 11, 12:
		l.say("sub", h, at, l.filter())
	case 13:
		l.say("ack", h, at, 1+many(4), many(99))
	case 14, 15:
		l.say("group", h, at, group, 1+many(12), l.filter())
	case 16, 17:
		l.say("join", h, at, group)
	case 18:
		l.say("leave", h, at, group, 1+many(3))
	case 19, 20:
		l.say("commit", h, at, group, 1+many(3), many(5), many(4), many(99))
	case 21:
		if r.Intn(3) == 0 {
			l.say("gone", h, at, group)
		}
	default:
		l.say("put", h, at, l.key(), l.value())
	}
}

// waits tells whether a client waits for an answer.
func (l *life) waits(h int) bool {
	return slices.ContainsFunc(l.cluster(0).Calls(), func(k api.Call) bool { return k.Hand == h && k.Ended == 0 })
}

// other is what clients do beside that.
func (l *life) other() {
	side := l.side()
	switch h, at := l.hand(), l.node(side); l.r.Intn(4) {
	case 0:
		l.say("again", side, h, at)
	case 1:
		l.say("quit", side, h)
	default:
		l.say("look", side, h, at)
	}
}

// relay is what the relay does next, more or less.
func (l *life) relay() {
	k := l.x.m.Relay()
	switch a := l.r.Intn(40); {
	case a == 0:
		l.say("relay", l.pick("forget", "forget", "drop", "open", "nothing", "again", "", "Open", "_"), l.node(0))
	case a < 3:
		side := l.side()
		l.say("retry", side, l.node(side))
	case a < 4 || k.Sub == 0:
		if l.move("sub", 0) == "error 151" {
			l.move("open", 0)
		}
	case a < 6:
		l.move("learn", 1)
	case !k.Known && k.Seen == 0 || a < 8:
		l.move("look", 0)
	case !k.Known || a < 10:
		l.move("reset", 1)
	case a < 15:
		l.move("ack", 0)
	case k.To == 0:
		l.move("pull", 0)
	default:
		l.move("push", 1)
	}
}

// move has the relay do a move by a side; if it is busy, it asks again.
func (l *life) move(what string, side int) string {
	answer := l.say("relay", what, l.node(side))
	if answer == "error 131" {
		l.say("retry", side, l.node(side))
	}
	l.come(side)
	return answer
}

// asks has something told.
func (l *life) asks(side int) {
	r := l.r
	kind := r.Intn(15)
	if kind < 6 {
		side = l.often(0, 9) // there is nothing of that at the mirror
	}
	at := l.often(r.Intn(5), 9)
	if r.Intn(2) == 0 {
		at = l.node(side)
	}
	switch kind {
	case 0:
		l.say("groups", side, at)
	case 1:
		l.say("rows", side, at, l.pick("v", "w", "x", "_"))
	case 2, 3:
		id, from := l.sub()
		l.say("feed", side, at, id, from)
	case 4, 5:
		_, from := l.sub()
		l.say("poll", side, at, l.pick("g", "h"), l.often(r.Intn(2), 9), from)
	case 6:
		l.say("knows")
	case 7:
		l.say("calls", side)
	case 8:
		l.say("way", side)
	case 9:
		l.say("compare", at, l.node(1))
	case 10:
		l.say("state", side, at)
	case 11:
		l.say("plan", side, at, l.question())
	case 12, 13:
		l.say("query", side, at, l.question())
	default:
		l.say("keys", side, at)
	}
}

// sub is often a subscriber of the source's, and a place that it may ask behind.
func (l *life) sub() (id, from int) {
	n := l.cluster(0).Node(max(0, l.leader(0)))
	if n == nil {
		return 1, 0
	}
	subs := n.Machine().Subs()
	if len(subs) == 0 {
		return 1, 0
	}
	s := subs[l.r.Intn(len(subs))]
	return l.often(s.ID, 9), l.often(s.At+l.r.Intn(n.Machine().At()-s.At+1), 9)
}

// settle has both sides led, and the source have what can be asked for.
func (l *life) settle() {
	l.lead(0)
	l.lead(1)
	for _, s := range []string{"open", "index v g", "sum w g n", "group g 3 put", "join g", "join g"} {
		word, rest, ok := strings.Cut(s, " ")
		if l.r.Intn(9) == 0 {
			continue
		}
		if ok {
			l.say(word, 0, l.node(0), rest)
		} else {
			l.say(word, 0, l.node(0))
		}
		l.say("carry", 0, 60)
	}
}

// write is a text of some lines.
func (l *life) write(lines int) string {
	calm := l.r.Intn(6) > 0
	if l.r.Intn(9) > 0 {
		l.settle()
	}
	for n := 0; len(l.text) < lines; n++ {
		if n%20 == 0 && calm {
			for side := range 2 {
				l.lead(side)
				l.come(side)
			}
		}
		l.some()
	}
	return strings.Join(l.text, "\n")
}

// P23.2 to P23.6: random texts.
func TestLives(t *testing.T) {
	seen := map[string]int{}
	for seed := range int64(60) {
		l := newLife(t, seed, seen)
		s := l.write(400)
		report := same(t, s)
		l.again(s, report)
		l.beginnings(report)
		l.silent(report)
		l.many(report)
	}
	for _, what := range expected() {
		if seen[what] == 0 {
			t.Error("never:", what)
		}
	}
	if t.Failed() || testing.Verbose() {
		var names []string
		for what, n := range seen {
			names = append(names, what+" "+strconv.Itoa(n))
		}
		slices.Sort(names)
		t.Log(strings.Join(names, "\n"))
	}
}

// again holds P23.5.
func (l *life) again(s, report string) {
	l.t.Helper()
	for range 2 {
		r, _, e := Run(s)
		if e != api.OK {
			l.t.Fatal(e)
		}
		alike(l.t, r, report)
	}
}

// beginnings holds P23.3.
func (l *life) beginnings(report string) {
	l.t.Helper()
	for range 5 {
		n := l.r.Intn(len(l.text) + 1)
		r, at, e := Run(strings.Join(l.text[:n], "\n"))
		if at != 0 || e != api.OK || !strings.HasPrefix(report, r) || strings.Count(r, "\n") != max(n-1, 0) {
			l.t.Fatalf("P23.3: of %d lines %d answers, line %d, error %d", n, strings.Count(r, "\n"), at, e)
		}
	}
}

// silent holds P23.4.
func (l *life) silent(report string) {
	l.t.Helper()
	var out []string
	for _, s := range l.text {
		for l.r.Intn(3) == 0 {
			out = append(out, l.pick("", "#", "# put 0 0 a b", "#"+strings.Repeat("x", 600)))
		}
		out = append(out, s)
	}
	s := strings.Join(append(out, "", "#"), "\n")
	if len(s) > api.MaxText {
		s = strings.ReplaceAll(s, strings.Repeat("x", 600), "")
	}
	r, _, e := Run(s)
	if e != api.OK {
		l.t.Fatal(e, len(s))
	}
	alike(l.t, r, report)
}

// many holds P23.6.
func (l *life) many(report string) {
	l.t.Helper()
	answers := strings.Split(report, "\n")
	out, want := "", ""
	for i, s := range l.text {
		n := 1
		if a := strings.Split(s, " "); a[0] == "carry" {
			n, _ = strconv.Atoi(a[2])
			s = "carry " + a[1] + " 1"
		}
		if len(out)+n*(len(s)+1) > api.MaxText {
			break
		}
		out += strings.Repeat(s+"\n", n)
		if i > 0 {
			want += strings.Repeat(answers[i-1]+"\n", n)
		}
	}
	r, _, e := Run(out)
	if e != api.OK {
		l.t.Fatal(e)
	}
	alike(l.t, r, want)
}

// damaged is a line in which something stands otherwise.
func (l *life) damaged(s string) string {
	r := l.r
	i, j := r.Intn(len(s)+1), r.Intn(len(s)+1)
	i, j = min(i, j), max(i, j)
	parts := strings.Split(s, " ")
	at := r.Intn(len(parts))
	switch r.Intn(16) {
	case 0:
		return s[:i] + l.pick(" ", "_", "0", "-", ",", "#", "\n", "\r", "\x00", "\xff", "ä", ";", "a", "1000000") + s[i:]
	case 1:
		return s[:i] + s[min(i+1, len(s)):]
	case 2:
		return s[:i] + s[j:]
	case 3:
		return s + strings.Repeat(l.pick(" ", "x", "€"), []int{1, 400, 512 - min(len(s), 512), 513 - min(len(s), 512)}[r.Intn(4)])
	case 4:
		parts = slices.Delete(parts, at, at+1)
	case 5:
		parts = slices.Insert(parts, at, l.pick("0", "", "-", "a", "all", "keys"))
	case 6:
		parts[at] = l.pick("0", "7", "", "-", "a_b", "999999", "1000000", "01", "201", "-1", "0,1", "mirror", "keys", "all", "knows")
	case 7:
		parts[0], _, _ = strings.Cut(l.text[r.Intn(len(l.text))], " ")
	default:
		if _, e := strconv.Atoi(parts[at]); e == nil {
			parts[at] = l.pick("0", "1", "2", "4", "5", "9", "200", "999999")
		}
	}
	return strings.Join(parts, " ")
}

// P23.1, P23.2: random texts, of which some lines are not as they were.
func TestDamaged(t *testing.T) {
	none, some := 0, 0
	for seed := range int64(1000) {
		l := newLife(t, seed, map[string]int{})
		l.write(25)
		for range 1 + l.r.Intn(2) {
			at := l.r.Intn(len(l.text))
			l.text[at] = l.damaged(l.text[at])
		}
		s := strings.Join(l.text, "\n")
		same(t, s)
		if _, e := Check(s); e == api.OK {
			some++
		} else {
			none++
		}
	}
	if none < 300 || some < 300 {
		t.Error(none, some)
	}
}

// P23.1: bytes as they come.
func TestBytes(t *testing.T) {
	r := rand.New(rand.NewSource(1))
	const bytes = "mirror 0,1-\n\n  #_\x00\xff\"^=()ä"
	for range 3000 {
		b := make([]byte, r.Intn(60))
		for i := range b {
			b[i] = bytes[r.Intn(len(bytes))]
		}
		same(t, string(b))
		same(t, "mirror 0 1 -\n"+string(b))
	}
}

// P23.5: texts that are played at once know nothing of one another.
func TestAtOnce(t *testing.T) {
	var texts, want []string
	for seed := range int64(8) {
		s := newLife(t, seed, map[string]int{}).write(100)
		r, _, _ := Run(s)
		texts, want = append(texts, s), append(want, r)
	}
	got := make([]string, len(texts))
	var all sync.WaitGroup
	for i, s := range texts {
		all.Go(func() { got[i], _, _ = Run(s) })
	}
	all.Wait()
	for i := range got {
		alike(t, got[i], want[i])
	}
}

// expected is what random texts are to meet.
func expected() []string {
	l := []string{
		"lose: ok", "double: ok", "start: ok", "wall: ok", "pack: error 120", "pack: error 30", "hand: error 110", "hand: error 130", "roster: error 110", "roster: error 111", "roster: error 130", "put: error 20", "index: error 22", "group: error 220", "start: error 150",
		"relay pull: error 80", "relay pull: error 81", "relay pull: error 150", "relay push: error 131", "relay sub: error 131", "relay nothing: error 151", "relay again: error 151", "relay : error 151",
		"calls: calls some", "compare: compare some", "feed: feed some", "feed: feed", "feed: error 5", "feed: error 80", "feed: error 81", "feed: error 82", "groups: groups some", "keys: keys some", "poll: poll some", "poll: error 1", "poll: error 81", "poll: error 220", "query: query some", "query: error 72", "plan: plan", "plan: error 72", "rows: rows some", "rows: error 71", "state: state", "way: way", "knows: knows",
	}
	for _, word := range strings.Fields("ack again arm cas commit count crash del drop gone group hand index join leave look open pack put quit retry roster sub sum take tick") {
		l = append(l, word+": ok", word+": error 151")
	}
	for _, what := range strings.Fields("ack drop forget learn look open pull push reset sub") {
		l = append(l, "relay "+what+": ok")
	}
	return l
}
