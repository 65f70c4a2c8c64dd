package query

import (
	"fmt"
	"math/rand"
	"slices"
	"strings"
	"testing"

	"tidemark/api"
	"tidemark/machine"
)

func indexView(name, field string) api.View {
	return api.View{Name: name, Kind: api.VIndex, Field: field}
}

// P16.3: which plan it is.
func TestPlans(t *testing.T) {
	pairs := map[string]string{"a": "g:x n:1", "ab": "g:x n:2", "abc": "g:y n:3", "b": "g:x h:z n:4", "": "g:x", "a\x00": "g:x", "\xff": "g:x"}
	list := []api.View{{Name: "c", Kind: api.VCount, Field: "g"}, {Name: "s", Kind: api.VSum, Field: "h", Of: "n"}, indexView("lost", "h"), indexView("i", "g"), indexView("j", "g"), indexView("n", "n")}
	all, g, h, n := api.Plan{}, func(s string) api.Plan { return api.Plan{Kind: api.PIndex, Field: "g", Text: s} }, api.Plan{Kind: api.PIndex, Field: "h", Text: "z"}, api.Plan{Kind: api.PIndex, Field: "n", Text: "1"}
	front := func(s string) api.Plan { return api.Plan{Kind: api.PRange, Text: s} }
	for i, c := range []struct {
		where  api.Filter
		untold string
		want   api.Plan
	}{
		{api.Filter{}, "", all}, {api.Filter{Kind: api.FPut}, "", all}, {and(), "", all}, {or(), "", all}, {prefix("a"), "", front("a")}, {prefix("ab"), "", front("ab")}, {equal("g", "x"), "", g("x")}, {equal("g", "none"), "", g("none")}, {equal("g", ""), "", g("")}, {equal("q", "x"), "", all}, {equal("h", "z"), "lost", all}, {equal("h", "z"), "", h},
		{equal("g", "x"), "i", g("x")}, {equal("g", "y"), "j", g("y")}, {not(prefix("a")), "", all}, {not(equal("g", "x")), "", all}, {or(prefix("a")), "", all}, {or(equal("g", "x")), "", all}, {or(prefix("a"), prefix("ab")), "", all},
		{and(prefix("a"), equal("g", "x")), "", g("x")}, {and(equal("g", "x"), prefix("a")), "", g("x")}, {and(equal("n", "1"), equal("g", "x")), "", n}, {and(equal("g", "x"), equal("n", "1")), "", g("x")}, {and(equal("q", "1"), equal("h", "z"), equal("g", "y")), "lost", g("y")}, {and(equal("h", "z"), equal("g", "y")), "", h}, {and(equal("g", "y"), equal("g", "x")), "", g("y")},
		{and(prefix("a"), prefix("ab")), "", front("ab")}, {and(prefix("ab"), prefix("a")), "", front("ab")}, {and(prefix("a"), prefix("b")), "", front("a")}, {and(prefix("b"), prefix("a")), "", front("b")}, {and(prefix("ab"), prefix("é")), "", front("ab")}, {and(prefix("é"), prefix("ab")), "", front("é")}, {and(prefix("a"), prefix("é")), "", front("é")}, {and(prefix("a"), equal("q", "x")), "", front("a")},
		{and(and(and(prefix("a"), equal("g", "x")))), "", g("x")}, {and(and(prefix("a")), and(and(prefix("abc")), prefix("ab"))), "", front("abc")}, {and(and(equal("n", "1")), equal("g", "x")), "", n}, {and(and(), equal("g", "x")), "", g("x")}, {and(or(equal("g", "x")), not(not(prefix("a"))), prefix("b")), "", front("b")}, {and(not(equal("g", "x")), api.Filter{}), "", all},
	} {
		for _, q := range []api.Query{{Where: c.where}, {Kind: api.QCount, Where: c.where, By: "g", Down: true}, {Kind: api.QTop, Of: "n", Where: c.where}} {
			a := &fake{pairs: pairs, views: list, untold: c.untold}
			l, plan, e := Ask(q, a)
			want, f := modelOver(q, had(a))
			if plan != c.want || e != f || !alike(l, want) {
				t.Errorf("%d: %v: %v %v %d, not %v %v", i, q, plan, l, e, c.want, want)
			}
		}
	}
}

// P16.3: keys are found as the plan tells.
func TestPlansAreHowKeysAreFound(t *testing.T) {
	pairs := map[string]string{"a": "g:x", "ab": "g:y", "ac": "g:x", "b": "g:x", "a\x00": "g:y", "é": "g:z", "ê": "g:z"}
	for i, c := range []struct {
		where api.Filter
		views []api.View
		asked []string
		rows  int
	}{
		{api.Filter{}, nil, []string{"-"}, 7}, {equal("g", "x"), nil, []string{"-"}, 3}, {prefix("a"), nil, []string{"a-b"}, 4}, {prefix("ab"), nil, []string{"ab-ac"}, 1}, {prefix("é"), nil, []string{"é-ê"}, 1}, {prefix("~"), nil, []string{"~-\x7f"}, 0},
		{equal("g", "x"), []api.View{indexView("i", "g")}, []string{"a-a\x00", "ac-ac\x00", "b-b\x00"}, 3}, {and(prefix("a"), equal("g", "x")), []api.View{indexView("i", "g")}, []string{"a-a\x00", "ac-ac\x00", "b-b\x00"}, 2}, {equal("g", "w"), []api.View{indexView("i", "g")}, nil, 0},
	} {
		a := &fake{pairs: pairs, views: c.views}
		l, _, e := Ask(api.Query{Where: c.where}, a)
		if len(l) != c.rows || e != api.OK || !slices.Equal(a.asked, c.asked) {
			t.Errorf("%d: %v %d: %q", i, l, e, a.asked)
		}
	}
}

// done is a machine that did some writes, and has some views.
func done(t *testing.T, r *rand.Rand) *machine.Machine {
	m := machine.New()
	do := func(c api.Command) api.Reply {
		b, e := machine.Put(c)
		if e != api.OK {
			t.Fatal(c, e)
		}
		return m.Apply(m.At()+1, b)
	}
	session := do(api.Command{Kind: api.COpen}).N
	for i := range 20 {
		c := api.Command{Kind: api.CWrite, Session: session, Seq: i + 1, Ops: []api.Op{{Key: one(r, "k", "l", "ké", "k1") + one(r, "", "0", "1", "2"), Has: true, Value: strings.TrimSpace(anyValue(r))}}}
		switch r.Intn(6) {
		case 0:
			c.Ops[0] = api.Op{Key: c.Ops[0].Key}
		case 1:
			c.Ops, c.Kind, c.View = nil, api.CView, api.View{Name: fmt.Sprint(one(r, "v", "w")), Kind: 1 + r.Intn(2), Field: one(r, "a", "b", "n")}
		}
		do(c)
	}
	return m
}

// P16.3, P16.5
func TestAskIsOverAllPairs(t *testing.T) {
	r := rand.New(rand.NewSource(4))
	plans, over := [3]int{}, 0
	for range 2000 {
		a := &fake{pairs: map[string]string{}, untold: one(r, "", "v", "w")}
		for _, p := range anyPairs(r) {
			a.pairs[p.Key] = p.Value
		}
		for _, name := range []string{"u", "v", "w"} {
			a.views = append(a.views, api.View{Name: name, Kind: 1 + r.Intn(2), Field: one(r, "a", "b", "n")})
		}
		m := done(t, r)
		told := slices.DeleteFunc(a.Views(), func(w api.View) bool { return w.Name == a.untold })
		for range 8 {
			q := anyQuery(r)
			for _, asked := range []struct {
				a     Asked
				views []api.View
			}{{a, told}, {m, m.Views()}} {
				got, plan, e := Ask(q, asked.a)
				want, f := Over(q, had(asked.a)...)
				if e != f || !alike(got, want) || plan != modelPlan(q.Where, asked.views) {
					t.Fatalf("%v: %v %v %d, not %v %d", q, plan, got, e, want, f)
				}
				plans[plan.Kind]++
				if e == api.ErrOver {
					over++
				}
			}
		}
	}
	if slices.Min(plans[:]) < 1000 || over < 40 {
		t.Error(plans, over)
	}
}

// P16.3
func TestAskTellsThePlanOfWhatIsOver(t *testing.T) {
	a := &fake{pairs: map[string]string{"ka": "g:x n:" + top, "kb": "g:x n:1", "c": "g:y n:2"}, views: []api.View{indexView("i", "g")}}
	for _, c := range []struct {
		where api.Filter
		want  api.Plan
	}{{api.Filter{}, api.Plan{}}, {prefix("k"), api.Plan{Kind: api.PRange, Text: "k"}}, {equal("g", "x"), api.Plan{Kind: api.PIndex, Field: "g", Text: "x"}}} {
		l, plan, e := Ask(api.Query{Kind: api.QSum, Of: "n", Where: c.where}, a)
		if len(l) != 0 || plan != c.want || e != api.ErrOver {
			t.Error(l, plan, e)
		}
	}
}

// P16.3
func TestAskOfNobody(t *testing.T) {
	l, plan, e := Ask(api.Query{}, nil)
	if len(l) != 0 || plan != (api.Plan{}) || e != api.ErrNil {
		t.Error(l, plan, e)
	}
	l, plan, e = Ask(api.Query{Where: prefix("a")}, (*fake)(nil))
	if len(l) != 0 || plan != (api.Plan{}) || e != api.ErrNil {
		t.Error("a pointer to none:", l, plan, e)
	}
	for _, m := range []*machine.Machine{nil, {}, machine.New()} {
		l, plan, e = Ask(api.Query{Where: and(equal("g", "x"), prefix("a"))}, m)
		if len(l) != 0 || plan != (api.Plan{Kind: api.PRange, Text: "a"}) || e != api.OK {
			t.Error("a machine without keys:", l, plan, e)
		}
	}
}

// drawer is asked, and tells what it was given, whatever it is asked for.
type drawer struct {
	keys  []api.Op
	views []api.View
	rows  []api.Row
}

func (d drawer) Keys(from, to string) []api.Op { return d.keys }

func (d drawer) Views() []api.View { return d.views }

func (d drawer) Rows(string) ([]api.Row, api.Errno) { return d.rows, api.OK }

// What one tells who is asked is as it was, and none of the answer.
func TestAskIsNewMemory(t *testing.T) {
	fresh := func() drawer {
		return drawer{[]api.Op{{Key: "a", Has: true, Value: "g:x"}, {Key: "b"}, {Key: "c", Has: true, Value: "g:x"}}, []api.View{indexView("i", "g")}, []api.Row{{Text: "x", Keys: []string{"c", "a"}, N: 2}}}
	}
	d := fresh()
	for _, where := range []api.Filter{{}, equal("g", "x"), or(prefix("a"), prefix("c"))} {
		l, _, e := Ask(api.Query{Where: where}, d)
		if e != api.OK || !alike(l, keyRows("a g:x", "c g:x")) {
			t.Fatal(l, e)
		}
		for i := range l {
			l[i].Keys[0] = "?"
			l[i] = api.Row{}
		}
		if want := fresh(); !slices.Equal(d.keys, want.keys) || !slices.Equal(d.views, want.views) || !alike(d.rows, want.rows) {
			t.Error(d)
		}
	}
}
