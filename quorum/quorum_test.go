package quorum

import (
	"math"
	"math/rand"
	"reflect"
	"slices"
	"testing"

	"tidemark/api"
)

func of(voters []int, learners ...int) api.Roster {
	return api.Roster{Voters: voters, Learners: learners}
}

func l(some ...int) []int { return some }

// everyRoster is each roster that may be: what each node is, is a digit.
func everyRoster() []api.Roster {
	var all []api.Roster
	for code := range 243 {
		var r api.Roster
		for n := range 5 {
			switch code % 3 {
			case 1:
				r.Learners = append(r.Learners, n)
			case 2:
				r.Voters = append(r.Voters, n)
			}
			code /= 3
		}
		if len(r.Voters) > 0 {
			all = append(all, r)
		}
	}
	return all
}

// noRosters may not be.
func noRosters() []api.Roster {
	return []api.Roster{
		{}, of(nil, 0), of(l(), 0, 1), of(l(0, 0)), of(l(0, 1, 0)), of(l(0), 0), of(l(0), 1, 1), of(l(0, 1), 2, 1), of(l(5)), of(l(-1)), of(l(0, 5)), of(l(0), 5), of(l(0), -1), of(l(math.MaxInt)), of(l(math.MinInt)), of(l(0), math.MaxInt), of(l(0), math.MinInt),
		of(l(0, 1, 2, 3, 4, 4)), of(l(0, 1, 2, 3, 4), 0), of(l(0, 1, 2), 3, 4, 3), of(slices.Repeat(l(1), 70000)), of(l(0), slices.Repeat(l(1), 70000)...), of(slices.Repeat(l(1), 70000), slices.Repeat(l(2), 70000)...),
	}
}

func mixed(r *rand.Rand, l []int) []int {
	l = slices.Clone(l)
	r.Shuffle(len(l), func(i, j int) { l[i], l[j] = l[j], l[i] })
	return l
}

// The document's example.
func TestExample(t *testing.T) {
	three := of(l(0, 1, 2))
	if !Majority(three, 0, 2) || May(of(l(0, 1)), of(l(0, 1), 2)) != api.OK || May(of(l(0, 1), 2), three) != api.OK || May(of(l(0, 1)), three) != api.ErrChange || Agreed(three, [api.MaxNodes]int{5, 9, 7}) != 7 {
		t.Error("the example")
	}
}

// P17.1
func TestCheck(t *testing.T) {
	r := rand.New(rand.NewSource(1))
	all := everyRoster()
	if len(all) != 211 {
		t.Fatal(len(all))
	}
	for _, x := range all {
		if e := Check(of(mixed(r, x.Voters), mixed(r, x.Learners)...)); e != api.OK {
			t.Error(x, e)
		}
	}
	for i, x := range noRosters() {
		if e := Check(x); e != api.ErrRoster {
			t.Error(i, e)
		}
	}
}

// P17.1: of each two rosters.
func TestMay(t *testing.T) {
	r := rand.New(rand.NewSource(2))
	all, steps := everyRoster(), 0
	for _, old := range all {
		for _, next := range all {
			unlike, leap := 0, false
			for n := range 5 {
				voted, votes := slices.Contains(old.Voters, n), slices.Contains(next.Voters, n)
				learned, learns := slices.Contains(old.Learners, n), slices.Contains(next.Learners, n)
				if voted != votes || learned != learns {
					unlike++
				}
				leap = leap || votes && !voted && !learned
			}
			want := api.ErrChange
			if unlike == 1 && !leap {
				want = api.OK
				steps++
			}
			if e := May(of(mixed(r, old.Voters), mixed(r, old.Learners)...), of(mixed(r, next.Voters), mixed(r, next.Learners)...)); e != want {
				t.Fatal(old, next, e)
			}
		}
	}
	if steps < 500 {
		t.Error(steps)
	}
	for i, x := range noRosters() {
		for _, e := range []api.Errno{May(x, all[0]), May(all[0], x), May(x, x), May(x, noRosters()[0])} {
			if e != api.ErrRoster {
				t.Error(i, e)
			}
		}
	}
}

// P17.1: also of rosters that may not be.
func TestWhoIsThere(t *testing.T) {
	r := rand.New(rand.NewSource(3))
	l := append(everyRoster(), noRosters()...)
	for range 300 {
		var x api.Roster
		for range r.Intn(9) {
			x.Voters = append(x.Voters, r.Intn(9)-2)
		}
		for range r.Intn(9) {
			x.Learners = append(x.Learners, r.Intn(9)-2)
		}
		l = append(l, x)
	}
	for _, x := range l {
		var all []int
		for _, n := range []int{math.MinInt, -2, -1, 0, 1, 2, 3, 4, 5, 6, 7, math.MaxInt} {
			votes, learns := slices.Contains(x.Voters, n), slices.Contains(x.Learners, n)
			if votes || learns {
				all = append(all, n)
			}
			if Votes(x, n) != votes || Has(x, n) != (votes || learns) {
				t.Error(x, n)
			}
		}
		if got := All(x); !slices.Equal(got, all) {
			t.Errorf("%v: %v, not %v", x, got, all)
		}
	}
}

// everySome is each set of nodes.
func everySome() [][]int {
	var all [][]int
	for bits := range 32 {
		var some []int
		for n := range 5 {
			if bits>>n&1 == 1 {
				some = append(some, n)
			}
		}
		all = append(all, some)
	}
	return all
}

// P17.2
func TestMajority(t *testing.T) {
	r := rand.New(rand.NewSource(4))
	for _, x := range everyRoster() {
		for _, some := range everySome() {
			n := 0
			for _, v := range x.Voters {
				if slices.Contains(some, v) {
					n++
				}
			}
			want := 2*n > len(x.Voters)
			if Majority(x, some...) != want || Majority(x, mixed(r, slices.Concat(some, some, l(-1, 5, math.MaxInt)))...) != want {
				t.Fatal(x, some)
			}
		}
	}
	for i, c := range []struct {
		r    api.Roster
		some []int
		want bool
	}{
		{api.Roster{}, nil, false}, {api.Roster{}, l(0, 1, 2, 3, 4), false}, {of(nil, 0, 1), l(0, 1), false}, {of(l(0), 1), l(1), false}, {of(l(0)), nil, false}, {of(l(7, -1)), l(-1, 7), true}, {of(l(7, -1)), l(7), false}, {of(l(0, 1)), l(0, 0, 0), false},
		{of(l(0, 0, 1)), l(0), true}, {of(l(0, 0, 1)), l(1), false}, {of(l(0, 0, 1, 1)), l(1), false}, {of(l(math.MinInt)), l(math.MinInt), true}, {of(slices.Repeat(l(1, 2), 70000)), slices.Repeat(l(3, 1), 70000), false}, {of(slices.Repeat(l(1, 2, 1), 70000)), slices.Repeat(l(3, 1), 70000), true},
	} {
		if Majority(c.r, c.some...) != c.want {
			t.Error(i)
		}
	}
}

// modelAgreed tries each number.
func modelAgreed(x api.Roster, reached [5]int) int {
	best, found := 0, false
	for _, m := range reached {
		n := 0
		for _, v := range x.Voters {
			if reached[v] >= m {
				n++
			}
		}
		if 2*n > len(x.Voters) && (!found || m > best) && slices.ContainsFunc(x.Voters, func(v int) bool { return reached[v] == m }) {
			best, found = m, true
		}
	}
	return best
}

// P17.2, P17.4
func TestAgreed(t *testing.T) {
	r := rand.New(rand.NewSource(5))
	all := everyRoster()
	for range 20000 {
		x := all[r.Intn(len(all))]
		if r.Intn(4) == 0 {
			x.Voters = append(x.Voters, x.Voters[r.Intn(len(x.Voters))])
		}
		var reached [5]int
		for n := range reached {
			reached[n] = []int{r.Intn(6), r.Intn(3) - 1, math.MaxInt, math.MinInt, r.Intn(1000)}[r.Intn(5)]
		}
		got := Agreed(of(mixed(r, x.Voters), x.Learners...), reached)
		if got != modelAgreed(x, reached) {
			t.Fatal(x, reached, got)
		}
		var have, more []int
		for _, v := range x.Voters {
			if reached[v] >= got {
				have = append(have, v)
			}
			if reached[v] > got {
				more = append(more, v)
			}
		}
		if !Majority(x, have...) || Majority(x, more...) {
			t.Fatal(x, reached, got)
		}
	}
	five := [api.MaxNodes]int{5, 4, 3, 2, 1}
	for i, c := range []struct {
		r    api.Roster
		want int
	}{
		{api.Roster{}, 0}, {of(nil, 0, 1), 0}, {of(l(0)), 5}, {of(l(4)), 1}, {of(l(0, 1)), 4}, {of(l(0, 1, 2)), 4}, {of(l(0, 1, 2, 3)), 3}, {of(l(0, 1, 2, 3, 4)), 3}, {of(l(4), 0, 1, 2, 3), 1}, {of(l(5)), 0}, {of(l(-1)), 0}, {of(l(0, 1, 5)), 0}, {of(l(0, 1, 2, math.MinInt)), 0}, {of(l(math.MaxInt, 0)), 0}, {of(l(0), 9), 5}, {of(l(0, 0, 4)), 5}, {of(l(0, 4, 4)), 1}, {of(slices.Repeat(l(1, 2), 70000)), 3}, {of(slices.Repeat(l(1, 2, 1), 70000)), 4},
	} {
		if got := Agreed(c.r, five); got != c.want {
			t.Error(i, got)
		}
	}
}

// P17.3, P17.5
func TestMajoritiesOverlap(t *testing.T) {
	all, some := everyRoster(), everySome()
	for _, x := range all {
		if !Majority(x, x.Voters...) || Majority(x) {
			t.Error(x)
		}
		for _, y := range all {
			if !slices.Equal(x.Voters, y.Voters) && May(x, y) != api.OK {
				continue
			}
			for _, a := range some {
				for _, b := range some {
					shared := slices.ContainsFunc(a, func(n int) bool {
						return slices.Contains(b, n) && Votes(x, n) && Votes(y, n)
					})
					if Majority(x, a...) && Majority(y, b...) && !shared {
						t.Fatal(x, y, a, b)
					}
				}
			}
		}
	}
}

// P17.6
func TestThereIsAWay(t *testing.T) {
	all := everyRoster()
	for i := range all {
		reached := map[int]bool{i: true}
		for work := l(i); len(work) > 0; work = work[1:] {
			for j, next := range all {
				if !reached[j] && May(all[work[0]], next) == api.OK {
					reached[j] = true
					work = append(work, j)
				}
			}
		}
		if len(reached) != len(all) {
			t.Fatal(all[i], len(reached))
		}
	}
}

// What is handed in is as it was, and All is nobody else's.
func TestMemory(t *testing.T) {
	voters, learners, some := l(3, 1, 1, 9), l(4, 0, 9), l(3, 0, 1, 9)
	x := api.Roster{Voters: voters[:3], Learners: learners[:2]}
	a, b := All(x), All(x)
	for i := range a[:cap(a)] {
		a[:cap(a)][i] = 7
	}
	Check(x)
	May(x, x)
	Majority(x, some[:3]...)
	Agreed(x, [5]int{1, 2, 3, 4, 5})
	if !slices.Equal(b, l(0, 1, 3, 4)) || !reflect.DeepEqual([][]int{voters, learners, some}, [][]int{{3, 1, 1, 9}, {4, 0, 9}, {3, 0, 1, 9}}) {
		t.Error(b, voters, learners, some)
	}
	only := All(of(l(2, 1)))
	only[0] = 9
	if x := l(2, 1); !slices.Equal(All(of(x)), l(1, 2)) || !slices.Equal(x, l(2, 1)) {
		t.Error(x)
	}
}
