package resolve

import (
	"fmt"
	"math/rand"
	"reflect"
	"slices"
	"sync"
	"testing"

	"agora/api"
	"agora/ranks"
)

// answers tells what all calls answer, as a text.
func answers(p api.Past, l []int, s []api.Spot, states [][]api.Spot) string {
	got, err := Resolve(p, states)
	return fmt.Sprint(Settled(states), Contested(states), Full(p, states), Walk(p, l, s), got, err)
}

// TestCallsEnd (R1): on a long past, on states that are great, on very many of them, on long rows.
func TestCallsEnd(t *testing.T) {
	const n = 5000
	b := begun()
	var names, joins []int
	for i := range n {
		names = append(names, b.put(title(ann, "x"), 0, 2, 1))
		joins = append(joins, b.put(join(fmt.Sprintf("@u%d:s9", i)), 0, 2, 3))
	}
	p := b.past
	all := stateOf(p, 0, 1, 2, 3)
	for _, i := range joins {
		all = append(all, api.Spot{Type: api.TMember, Key: p.Events[i].Key, At: i})
	}
	slices.SortFunc(all, inOrder)
	resolved(t, "a great state", p, [][]api.Spot{all, all}, all)
	resolved(t, "a great state and none", p, [][]api.Spot{all, nil}, all)
	resolved(t, "a great state and a small one", p, [][]api.Spot{all, stateOf(p, 0, 1)}, all)
	equal(t, "all walked", Walk(p, joins, stateOf(p, 0, 1, 2, 3)), all)
	equal(t, "one often", Walk(p, slices.Repeat([]int{names[3], -1, names[2]}, n), stateOf(p, 0, 1, 2)), stateOf(p, 0, 1, 2, names[2]))
	q := begun().past
	often := slices.Repeat([][]api.Spot{stateOf(q, 0, 1, 2, 3, 4), stateOf(q, 0, 1, 2, 3, 5)}, n)
	resolved(t, "very many states", q, often, stateOf(q, 0, 1, 2, 3, 4, 5))
	q.Auth[5] = slices.Repeat([]int{3, 1, 2, 0}, 10*n)
	equal(t, "an edge very often", Walk(q, []int{5}, nil), stateOf(q, 5))
}

// TestLongLines (R1): changes of levels that lean on each other, very many, and all ways between them.
func TestLongLines(t *testing.T) {
	const n = 1000
	b := begun()
	last := 2
	for i := range n {
		last = b.put(gives(ann, 50, i%50), 0, last, 1)
	}
	p := b.past
	resolved(t, "the last levels", p, [][]api.Spot{stateOf(p, 0, 1, 2, 3), stateOf(p, 0, 1, last, 3)}, stateOf(p, 0, 1, last, 3))
	resolved(t, "from nothing on", p, [][]api.Spot{nil, stateOf(p, last)}, stateOf(p, 0, 1, last))
	wide := begun()
	for i := range 300 {
		l := []int{0, 1}
		for j := range i {
			l = append(l, 6+i-1-j)
		}
		wide.put(gives(ann, 50, i%50), l...)
	}
	q := wide.past
	resolved(t, "all ways", q, [][]api.Spot{stateOf(q, 0, 1, 6), stateOf(q, 0, 1, 305)}, stateOf(q, 0, 1, 305))
}

// ring tells a map that holds itself, under these keys.
func ring(keys ...string) api.Json {
	l := make([]api.Json, len(keys))
	for i := range l {
		l[i] = api.Json{Kind: api.JMap, Keys: keys, List: l}
	}
	return l[0]
}

// TestAnyContents (R1): that hold themselves, are deep, or are of any parts.
func TestAnyContents(t *testing.T) {
	deep := api.Json{Kind: api.JList}
	for range 10000 {
		deep = api.Json{Kind: api.JList, List: []api.Json{deep}}
	}
	under := func(key string) api.Json {
		return api.Json{Kind: api.JMap, Keys: []string{key}, List: []api.Json{deep}}
	}
	for k, c := range []api.Json{ring("users", "membership"), ring("membership"), ring("x"), under("users"), under("membership"), under("x"), deep, {Kind: -1}, {Kind: api.JMap, Keys: []string{"users"}}} {
		p := roomOf()
		for i := 6; i < 12; i++ {
			p.Events[i].Content = c
		}
		comes(t, fmt.Sprint("content ", k), p, "0 1 2 3 4 6|0 1 2 3 4 5 7|0 1 9 3 4 5", "0 1 2 3 4 5")
		walked(t, fmt.Sprint("content ", k), p, "6 7 8 9 10 11", "0 1 2 3 4", "0 1 2 3 4")
		comes(t, fmt.Sprint("alone, content ", k), p, "0 1 9 11 4 6 8", "0 1 9 11 4 6 8")
		comes(t, fmt.Sprint("at hand, content ", k), p, "0 1 9 3 4|0 1 9 3 4 8", "0 1 9 3 4")
	}
}

// TestAnyParts (R1, R2): pasts and states of any parts: no call panics, and each answers what the chapter says of what is not right.
func TestAnyParts(t *testing.T) {
	r := rand.New(rand.NewSource(1))
	counts := map[bool]int{}
	for range 20000 {
		n := r.Intn(4)
		size := func() int { return max(0, n+pick(r, 0, 0, 0, 0, 0, 0, 0, 0, -1, 1)) }
		rows := func() (l [][]int) {
			for i := range size() {
				var row []int
				for range r.Intn(3) {
					row = append(row, pick(r, 0, 0, i-1, r.Intn(i+1), r.Intn(4)-1))
				}
				l = append(l, slices.DeleteFunc(row, func(j int) bool { return j >= i && r.Intn(6) > 0 }))
			}
			return l
		}
		p := api.Past{Names: make([]string, size()), Denied: make([]bool, size()), Prev: rows(), Auth: rows()}
		for range size() {
			p.Events = append(p.Events, chanceEvent(r))
		}
		states := make([][]api.Spot, r.Intn(4))
		fine := ranks.Right(p)
		for k := range states {
			for range r.Intn(3) {
				one := api.Spot{Type: pick(r, "", api.TName), Key: pick(r, "", ann), At: r.Intn(6) - 1}
				if one.At >= 0 && one.At < len(p.Events) && r.Intn(8) > 0 {
					one.Type, one.Key = p.Events[one.At].Type, p.Events[one.At].Key
				}
				states[k] = append(states[k], one)
			}
			fine = fine && modelRight(p, states[k])
		}
		counts[fine]++
		answers(p, chanceRow(r, 3), nil, states)
		for _, s := range states {
			if got := Walk(p, chanceRow(r, 3), s); len(got) > 0 && !(ranks.Right(p) && modelRight(p, s)) {
				t.Fatalf("not right, but walked: %+v, %+v", s, p)
			}
		}
		if fine {
			resolved(t, "right", p, states, modelResolve(p, states))
			continue
		}
		refused(t, "not right", p, states)
		equal(t, "full of what is not right", Full(p, states), nil)
		if t.Failed() {
			t.Fatalf("%+v, %+v", states, p)
		}
	}
	if counts[true] < 2000 || counts[false] < 2000 {
		t.Error("too few:", counts)
	}
}

// modelRight is the chapter's words of a state that is right in a right past.
func modelRight(p api.Past, s []api.Spot) bool {
	for i, one := range s {
		if one.At < 0 || one.At > len(p.Events)-1 || i > 0 && !ahead(s[i-1], one) {
			return false
		}
		if e := p.Events[one.At]; !e.IsState || e.Type != one.Type || e.Key != one.Key {
			return false
		}
	}
	return true
}

// TestEmptyListsAreTheSame (R3).
func TestEmptyListsAreTheSame(t *testing.T) {
	p, q := roomOf(), copyOf(roomOf())
	for i := range q.Auth {
		q.Auth[i], q.Prev[i] = append([]int{}, q.Auth[i]...), append([]int{}, q.Prev[i]...)
	}
	for _, text := range []string{"0 1 2 3 4 6|0 1 2 3 4 5 7", "0 1|", "8|0"} {
		l := states(t, p, text)
		if answers(p, []int{5, 6}, l[0], l) != answers(q, []int{5, 6}, l[0], l) {
			t.Errorf("%s: not the same", text)
		}
	}
	one := stateOf(p, 0, 1)
	for _, s := range [][]api.Spot{nil, {}} {
		resolved(t, "an empty state", p, [][]api.Spot{one, s}, one)
		equal(t, "full", Full(p, [][]api.Spot{one, s}), []int{0, 1})
		equal(t, "walk", Walk(p, []int{0}, s), stateOf(p, 0))
	}
	for _, l := range [][]int{nil, {}} {
		equal(t, "an empty row", Walk(p, l, one), one)
	}
}

// roomy tells the same row with something behind its end.
func roomy[T any](l []T, behind T) []T {
	return append(append(make([]T, 0, len(l)+2), l...), behind, behind)[:len(l)]
}

// whole tells a row with what lies behind its end, in other memory.
func whole[T any](l []T) []T { return slices.Clone(l[:cap(l)]) }

// roomyPast tells the same past, with something behind the end of each row.
func roomyPast(p api.Past) api.Past {
	q := copyOf(p)
	for i := range q.Auth {
		q.Auth[i], q.Prev[i] = roomy(q.Auth[i], 0), roomy(q.Prev[i], 78)
	}
	for i := range q.Events {
		q.Events[i].Prev, q.Events[i].Auth = roomy(q.Events[i].Prev, "$behind"), roomy(q.Events[i].Auth, "$behind")
	}
	q.Auth, q.Prev = roomy(q.Auth, []int{5}), roomy(q.Prev, []int{6})
	q.Names, q.Denied, q.Events = roomy(q.Names, "$behind"), roomy(q.Denied, true), roomy(q.Events, message(cat))
	return q
}

// wholePast tells a past with all that lies behind the ends of its rows, in other memory.
func wholePast(p api.Past) api.Past {
	q := api.Past{Names: whole(p.Names), Events: whole(p.Events), Denied: whole(p.Denied)}
	for i := range q.Events {
		q.Events[i].Prev, q.Events[i].Auth = whole(q.Events[i].Prev), whole(q.Events[i].Auth)
	}
	for _, l := range p.Auth[:cap(p.Auth)] {
		q.Auth = append(q.Auth, whole(l))
	}
	for _, l := range p.Prev[:cap(p.Prev)] {
		q.Prev = append(q.Prev, whole(l))
	}
	return q
}

// roomyStates tells the same states, with something behind the end of each.
func roomyStates(states [][]api.Spot) [][]api.Spot {
	l := make([][]api.Spot, len(states))
	for i, s := range states {
		l[i] = roomy(s, api.Spot{Type: "~", At: 3})
	}
	return roomy(l, []api.Spot{{Type: "~", At: 4}})
}

// wholeStates tells states with all that lies behind their ends, in other memory.
func wholeStates(states [][]api.Spot) [][]api.Spot {
	var l [][]api.Spot
	for _, s := range states[:cap(states)] {
		l = append(l, whole(s))
	}
	return l
}

// TestHandedInIsNotChanged (R4): the past, its contents, the states, the row, and what lies behind their ends; of what is not right, too; and what lies there does not count.
func TestHandedInIsNotChanged(t *testing.T) {
	r := rand.New(rand.NewSource(4))
	hold := func(p api.Past, l []int, s []api.Spot, states [][]api.Spot) {
		want := answers(p, l, s, states)
		q, row, one, several := roomyPast(p), roomy(l, 5), roomy(s, api.Spot{Type: "~", At: 2}), roomyStates(states)
		wasPast, wasRow, wasOne, wasSeveral := wholePast(q), whole(row), whole(one), wholeStates(several)
		contents := fmt.Sprintf("%+v", q.Events)
		if got := answers(q, row, one, several); got != want {
			t.Fatalf("what lies behind an end counts: %s, not %s", got, want)
		}
		if !reflect.DeepEqual(wholePast(q), wasPast) || fmt.Sprintf("%+v", q.Events) != contents {
			t.Fatalf("the past became %+v", q)
		}
		if !slices.Equal(whole(row), wasRow) || !slices.Equal(whole(one), wasOne) || !reflect.DeepEqual(wholeStates(several), wasSeveral) {
			t.Fatalf("%v, %+v, %+v became %v, %+v, %+v", wasRow, wasOne, wasSeveral, whole(row), whole(one), wholeStates(several))
		}
	}
	for range 300 {
		p, branches := chanceRoom(r, r.Intn(15))
		l := chanceStates(r, p, branches)
		hold(p, chanceRow(r, len(p.Events)), pick(r, l...), l)
	}
	p := roomOf()
	good := stateOf(p, 0, 1, 2, 3, 4, 7)
	for _, s := range wrongStates() {
		hold(p, []int{5, 6, 7}, s, [][]api.Spot{good, s})
	}
	for _, q := range wrongPasts() {
		if len(q.Auth) == len(q.Prev) {
			hold(q, []int{5, 6, 7}, good, [][]api.Spot{good, good[:2]})
		}
	}
}

// spoil writes over a row, and over what lies behind its end.
func spoil[T any](l []T, with T) {
	l = l[:cap(l)]
	for i := range l {
		l[i] = with
	}
}

// spoilPast writes over all rows of a past, and over its events.
func spoilPast(p api.Past) {
	for i := range p.Auth {
		spoil(p.Auth[i], 0)
		spoil(p.Prev[i], 0)
	}
	spoil(p.Names, "")
	spoil(p.Denied, true)
	spoil(p.Events, api.Event{})
}

// handedOut holds answers to it that who writes over one of them, or over what was handed in, changes no other one.
func handedOut[T comparable](t *testing.T, what string, r *rand.Rand, tell func(p api.Past, states [][]api.Spot) []T) {
	t.Helper()
	var none T
	for range 100 {
		p, branches := chanceRoom(r, r.Intn(15))
		l := copyStates(chanceStates(r, p, branches))
		was, wasPast := copyStates(l), copyOf(p)
		want := slices.Clone(tell(p, l))
		one, other := tell(p, l), tell(p, l)
		_ = append(one, none)
		spoil(one, none)
		equal(t, what+", another answer", other, want)
		equal(t, what+", a later answer", tell(p, l), want)
		if !reflect.DeepEqual(l, was) || !reflect.DeepEqual(p, wasPast) {
			t.Fatalf("%s: the states became %+v, the past %+v", what, l, p)
		}
		for _, s := range l {
			spoil(s, api.Spot{Type: "spoilt", At: -5})
		}
		spoil(l, nil)
		equal(t, what+", when the states are changed", other, want)
		last := tell(p, was)
		spoilPast(p)
		equal(t, what+", when the past is changed", last, want)
	}
}

// TestHandedOutIsNew (R4).
func TestHandedOutIsNew(t *testing.T) {
	r := rand.New(rand.NewSource(44))
	handedOut(t, "settled", r, func(_ api.Past, states [][]api.Spot) []api.Spot { return Settled(states) })
	handedOut(t, "contested", r, func(_ api.Past, states [][]api.Spot) []int { return Contested(states) })
	handedOut(t, "full", r, Full)
	handedOut(t, "walk", r, func(p api.Past, states [][]api.Spot) []api.Spot { return Walk(p, []int{5, 6, 7, 8}, states[0]) })
	handedOut(t, "nothing walked", r, func(p api.Past, states [][]api.Spot) []api.Spot { return Walk(p, nil, states[0]) })
	handedOut(t, "resolve", r, func(p api.Past, states [][]api.Spot) []api.Spot {
		s, _ := Resolve(p, states)
		return s
	})
	handedOut(t, "one state resolved", r, func(p api.Past, states [][]api.Spot) []api.Spot {
		s, _ := Resolve(p, states[:1])
		return s
	})
}

// TestNothingIsKept (R4, R5): what is changed afterwards is told as it is then.
func TestNothingIsKept(t *testing.T) {
	p := roomOf()
	l := states(t, p, "0 1 2 3 4 6|0 1 2 3 4 5 7")
	resolved(t, "first", p, l, stateOf(p, 0, 1, 2, 3, 4, 6))
	p.Denied[6] = true
	resolved(t, "denied", p, l, stateOf(p, 0, 1, 2, 3, 4, 5, 7))
	p.Events[7].Sender = bob
	p.Auth[7] = []int{0, 2, 4}
	p.Denied[6] = false
	resolved(t, "another sender", p, l, stateOf(p, 0, 1, 2, 3, 4, 6, 7))
	l[0][0].At = 1
	refused(t, "another place", p, l)
	l[0][0].At = 0
	l[1] = l[0]
	resolved(t, "the same", p, l, l[0])
	p.Auth[7] = []int{7}
	refused(t, "a ring", p, l)
	p.Auth[7] = nil
	resolved(t, "at last", p, l, l[0])
}

// TestTheSameEachTime (R5): whatever order a map has, in other memory, and by several at once.
func TestTheSameEachTime(t *testing.T) {
	r := rand.New(rand.NewSource(5))
	for range 10 {
		p, branches := chanceRoom(r, 100)
		l, row := append(branches, chanceState(r, p)), chanceRow(r, 100)
		want := answers(p, row, l[0], l)
		var all sync.WaitGroup
		got := make([]string, 16)
		for i := range got {
			all.Go(func() {
				if i%2 == 0 {
					got[i] = answers(p, row, l[0], l)
				} else {
					got[i] = answers(copyOf(p), slices.Clone(row), slices.Clone(l[0]), copyStates(l))
				}
			})
		}
		all.Wait()
		for i, s := range got {
			if s != want {
				t.Fatalf("answer %d: %s, not %s", i, s, want)
			}
		}
	}
}
