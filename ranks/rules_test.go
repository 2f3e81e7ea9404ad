package ranks

import (
	"fmt"
	"math/rand"
	"reflect"
	"slices"
	"strconv"
	"sync"
	"testing"

	"agora/api"
)

// answers tells what all calls answer of a past, as a text.
func answers(p api.Past, set, line []int, i int) string {
	var powers []bool
	for _, e := range p.Events {
		powers = append(powers, Powers(e))
	}
	return fmt.Sprint(Right(p), len(powers), powers, Level(p, i), Near(p, line, i)) +
		short(Chain(p, set)) + short(ByPower(p, set)) + short(Line(p, i)) + short(ByLine(p, set, i))
}

// TestCallsEnd (R1): on lines that are very long, on places that all lean on one, on ways that are very many.
func TestCallsEnd(t *testing.T) {
	const n = 50000
	long, star := &builder{}, &builder{}
	e := gives(ann, ann, 5)
	up := make([]int, n)
	for i := range n {
		up[i] = i
		if i == 0 {
			long.put(e)
			star.put(e)
			continue
		}
		long.put(e, i-1)
		star.put(e, 0)
	}
	down := slices.Clone(up)
	slices.Reverse(down)
	p := long.past
	equal(t, "a long chain", Chain(p, []int{n - 1}), up[:n-1])
	equal(t, "a long line", Line(p, n-1), down)
	equal(t, "by power", ByPower(p, down), up)
	equal(t, "by the line of the last one", ByLine(p, down, n-1), up)
	equal(t, "by the line of the first one", ByLine(p, down, 0), up)
	equal(t, "without a line", ByLine(p, down, -1), up)
	number(t, "near, far back", Near(p, []int{0}, n-1), 0)
	number(t, "near, in a long line", Near(p, down, 0), n-1)
	// Each of two long lines, from the first place on, is of no help to the other one.
	two := &builder{}
	two.put(e)
	two.put(e)
	for i := 2; i < n; i++ {
		two.put(e, i-2)
	}
	q := two.past
	number(t, "nowhere", Near(q, Line(q, n-1), n-2), n/2)
	l := ByLine(q, up, n-1)
	number(t, "the first one of the other line", l[0], 0)
	number(t, "the last one", l[n-1], n-1)
	s := star.past
	equal(t, "a star's chain", Chain(s, up), []int{0})
	equal(t, "a star by power", ByPower(s, down), up[:n])
	equal(t, "a star by line", ByLine(s, down, 0), up)
	// Each leans on all that came ahead: so many ways that they can't be gone one by one.
	wide := &builder{}
	for i := range 1000 {
		wide.put(e, slices.Clone(up[:i])...)
	}
	equal(t, "all ways", Chain(wide.past, []int{999}), up[:999])
	equal(t, "all ways by power", ByPower(wide.past, down), up[:1000])
	equal(t, "all ways by line", ByLine(wide.past, down, 999), up[:1000])
}

// TestManyTimes (R1): the same place very often.
func TestManyTimes(t *testing.T) {
	p := roomOf()
	often := slices.Repeat([]int{8, -1, 2, 99}, 100000)
	is(t, "chain", Chain(p, often), "0 1 2 3 5")
	is(t, "by power", ByPower(p, often), "2 8")
	is(t, "by line", ByLine(p, often, 5), "2 8")
	number(t, "near", Near(p, often, 7), 2)
	p.Auth[8] = slices.Repeat([]int{5, 0}, 100000)
	is(t, "an edge very often", Chain(p, []int{8}), "0 1 2 3 5")
	is(t, "an edge very often, by power", ByPower(p, []int{8, 5}), "5 8")
}

// ring tells a map that holds itself, under these keys.
func ring(keys ...string) api.Json {
	l := make([]api.Json, len(keys))
	for i := range l {
		l[i] = api.Json{Kind: api.JMap, Keys: keys, List: l}
	}
	return l[0]
}

// TestAnyContents (R1): that hold themselves, are deep, or are of any parts.
func TestAnyContents(t *testing.T) {
	deep := api.Json{Kind: api.JList}
	for range 10000 {
		deep = api.Json{Kind: api.JList, List: []api.Json{deep}}
	}
	under := func(key string) api.Json {
		return api.Json{Kind: api.JMap, Keys: []string{key}, List: []api.Json{deep}}
	}
	for _, c := range []api.Json{ring("users", "membership"), ring("membership"), ring("x"), under("users"), under("membership"), under("x"), deep, {Kind: -1}, {Kind: api.JMap, Keys: []string{"users"}}, {Kind: api.JMap, Keys: []string{"users_default"}}} {
		b := &builder{}
		first, l, m := create(ann), gives(ann, ann, 50), member(ann, bob, "ban")
		first.Content, l.Content, m.Content = c, c, c
		b.put(first)
		b.put(l, 0)
		b.put(m, 0, 1)
		b.put(m, 0)
		p := b.past
		powers(t, "levels", l, true)
		powers(t, "a membership that is no text", m, false)
		number(t, "no levels", Level(p, 2), 0)
		number(t, "a create event of any content", Level(p, 3), 100)
		is(t, "by power", ByPower(p, []int{0, 1, 2, 3}), "0 1 3 2")
		is(t, "line", Line(p, 2), "2 1")
		is(t, "by line", ByLine(p, []int{3, 2, 1}, 1), "3 1 2")
	}
}

// TestAnyPasts (R1): pasts of any parts: no call panics, and each answers what its chapter says of what is not right.
func TestAnyPasts(t *testing.T) {
	r := rand.New(rand.NewSource(1))
	counts := map[bool]int{}
	for range 20000 {
		n := r.Intn(4)
		size := func() int { return max(0, n+pick(r, 0, 0, 0, 0, 0, 0, 0, 0, -1, 1)) }
		rows := func() (l [][]int) {
			for i := range size() {
				var row []int
				for range r.Intn(3) {
					row = append(row, pick(r, 0, 0, i-1, r.Intn(i+1), r.Intn(4)-1))
				}
				l = append(l, slices.DeleteFunc(row, func(j int) bool { return j >= i && r.Intn(6) > 0 }))
			}
			return l
		}
		p := api.Past{Names: make([]string, size()), Denied: make([]bool, size()), Prev: rows(), Auth: rows()}
		for range size() {
			p.Events = append(p.Events, chanceEvent(r))
		}
		line, i := chanceSet(r, 3), r.Intn(6)-1
		answers(p, line, line, i)
		right := Right(p)
		counts[right]++
		if !right && (Near(p, line, i) != len(line) || Level(p, i) != 0 || len(Line(p, i))+len(Chain(p, line))+len(ByPower(p, line))+len(ByLine(p, line, i)) > 0) {
			t.Fatalf("not right, but told: %+v", p)
		}
		if right && len(ByPower(p, line)) != len(modelSet(p, line)) {
			t.Fatalf("right, but not told: %+v", p)
		}
	}
	if counts[true] < 2000 || counts[false] < 2000 {
		t.Error("too few:", counts)
	}
}

// TestEmptyListsAreTheSame (R3).
func TestEmptyListsAreTheSame(t *testing.T) {
	p, q := roomOf(), copyOf(roomOf())
	for i := range q.Auth {
		if len(q.Auth[i]) == 0 {
			q.Auth[i] = []int{}
		}
		if len(q.Prev[i]) == 0 {
			q.Prev[i] = []int{}
		}
	}
	for i := range 9 {
		if answers(p, []int{i, 6}, []int{5, 2}, i) != answers(q, []int{i, 6}, []int{5, 2}, i) {
			t.Errorf("place %d: not the same", i)
		}
		if answers(p, nil, nil, i) != answers(p, []int{}, []int{}, i) {
			t.Errorf("place %d: none and an empty row are not the same", i)
		}
	}
}

// roomy tells the same row with something behind its end.
func roomy[T any](l []T, behind T) []T {
	return append(append(make([]T, 0, len(l)+2), l...), behind, behind)[:len(l)]
}

// whole tells a row with what lies behind its end, in other memory.
func whole[T any](l []T) []T { return slices.Clone(l[:cap(l)]) }

// roomyPast tells the same past, with something behind the end of each row.
func roomyPast(p api.Past) api.Past {
	q := copyOf(p)
	for i := range q.Auth {
		q.Auth[i], q.Prev[i] = roomy(q.Auth[i], 77), roomy(q.Prev[i], 78)
	}
	q.Auth, q.Prev = roomy(q.Auth, []int{5}), roomy(q.Prev, []int{6})
	q.Names, q.Denied, q.Events = roomy(q.Names, "$behind"), roomy(q.Denied, true), roomy(q.Events, message(cat))
	return q
}

// wholePast tells a past with all that lies behind the ends of its rows, in other memory.
func wholePast(p api.Past) api.Past {
	q := api.Past{Names: whole(p.Names), Events: whole(p.Events), Denied: whole(p.Denied)}
	for _, l := range p.Auth[:cap(p.Auth)] {
		q.Auth = append(q.Auth, whole(l))
	}
	for _, l := range p.Prev[:cap(p.Prev)] {
		q.Prev = append(q.Prev, whole(l))
	}
	return q
}

// TestHandedInIsNotChanged (R4): the past, the set, the line, and what lies behind their ends; of what is not right, too.
func TestHandedInIsNotChanged(t *testing.T) {
	pasts := []api.Past{roomOf(), branches(), {}}
	for _, p := range wrongPasts() {
		if len(p.Auth) == len(p.Prev) {
			pasts = append(pasts, p)
		}
	}
	r := rand.New(rand.NewSource(4))
	for range 100 {
		pasts = append(pasts, chancePast(r, r.Intn(12)))
	}
	for _, p := range pasts {
		p = roomyPast(p)
		was := wholePast(p)
		contents := fmt.Sprintf("%+v", p.Events)
		set, line := roomy(chanceSet(r, len(p.Events)), 55), roomy(chanceSet(r, len(p.Events)), 56)
		wasSet, wasLine := whole(set), whole(line)
		for i := -1; i <= len(p.Events); i++ {
			answers(p, set, line, i)
		}
		if !reflect.DeepEqual(wholePast(p), was) || fmt.Sprintf("%+v", p.Events) != contents {
			t.Fatalf("the past became %+v", p)
		}
		if !slices.Equal(whole(set), wasSet) || !slices.Equal(whole(line), wasLine) {
			t.Fatalf("%v, %v became %v, %v", wasSet, wasLine, whole(set), whole(line))
		}
	}
}

// spoil writes over a row, and over what lies behind its end.
func spoil[T any](l []T, with T) {
	l = l[:cap(l)]
	for i := range l {
		l[i] = with
	}
}

// TestHandedOutIsNew (R4): who writes over an answer, or over what was handed in, changes no answer and no past.
func TestHandedOutIsNew(t *testing.T) {
	for what, tell := range map[string]func(p api.Past, set []int) []int{
		"chain":    Chain,
		"by power": ByPower,
		"line":     func(p api.Past, set []int) []int { return Line(p, set[0]) },
		"by line":  func(p api.Past, set []int) []int { return ByLine(p, set, 5) },
	} {
		for _, text := range []string{"8", "1", "2 5 8", "0 1 2 3 4 5 6 7 8", "8 6", "6 6"} {
			p, set := roomOf(), row(t, text)
			want := slices.Clone(tell(p, set))
			one, other := tell(p, set), tell(p, set)
			spoil(one, -7)
			equal(t, what+", another answer", other, want)
			equal(t, what+", a later answer", tell(p, set), want)
			equal(t, what+", the set", set, row(t, text))
			if !reflect.DeepEqual(p, roomOf()) {
				t.Errorf("%s: the past became %+v", what, p)
			}
			spoil(set, 3)
			for i := range p.Auth {
				spoil(p.Auth[i], 0)
			}
			spoil(p.Names, "")
			spoil(p.Events, api.Event{})
			equal(t, what+", when what was handed in is changed", other, want)
		}
	}
}

// TestNothingIsKept (R4, R5): a past that is changed afterwards is told as it is then.
func TestNothingIsKept(t *testing.T) {
	p := roomOf()
	set := []int{3, 4, 7, 8}
	is(t, "was", ByPower(p, set), "7 3 8 4")
	is(t, "was, by line", ByLine(p, set, 5), "3 4 7 8")
	p.Events[2] = levels(ann, `{"users":{"@cat:s3":70}}`)
	is(t, "other levels", ByPower(p, set), "4 3 8 7") // 8 has 50, and leans on 3
	p.Auth[7] = []int{0, 5}
	p.Events[7].Ts = -1
	is(t, "other edges", ByLine(p, set, 5), "3 4 7 8")
	p.Events[4].Ts = -1
	is(t, "other times", ByLine(p, set, 5), "4 3 7 8")
	number(t, "near, by other edges", Near(p, []int{5, 2}, 7), 0)
	line := Line(p, 8)
	line[0] = 99
	number(t, "by a line that was changed", Near(p, line, 8), 1)
	is(t, "the line", Line(p, 8), "8 5 2")
}

// TestTheSameEachTime (R5): whatever order a map has, in other memory, and by several at once.
func TestTheSameEachTime(t *testing.T) {
	r := rand.New(rand.NewSource(5))
	p := chancePast(r, 200)
	set := r.Perm(200)[:150]
	line := Line(p, 190)
	want := answers(p, set, line, 190)
	var all sync.WaitGroup
	got := make([]string, 30)
	for i := range got {
		all.Go(func() {
			if i%2 == 0 {
				got[i] = answers(p, set, line, 190)
			} else {
				got[i] = answers(copyOf(p), slices.Clone(set), slices.Clone(line), 190)
			}
		})
	}
	all.Wait()
	for i, s := range got {
		if s != want {
			t.Errorf("answer %s: %s, not %s", strconv.Itoa(i), s, want)
		}
	}
}
