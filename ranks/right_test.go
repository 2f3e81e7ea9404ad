package ranks

import (
	"math"
	"math/rand"
	"testing"

	"agora/api"
)

// TestRight (12.1): as many of all five, and all edges backwards.
func TestRight(t *testing.T) {
	for what, p := range map[string]api.Past{
		"nothing":       {},
		"empty lists":   {Names: []string{}, Events: []api.Event{}, Prev: [][]int{}, Auth: [][]int{}, Denied: []bool{}},
		"one event":     {Names: []string{""}, Events: make([]api.Event, 1), Prev: [][]int{nil}, Auth: [][]int{{}}, Denied: []bool{true}},
		"a room":        roomOf(),
		"places twice":  {Names: make([]string, 3), Events: make([]api.Event, 3), Prev: [][]int{nil, {0, 0}, {1, 0, 1}}, Auth: [][]int{nil, {0, 0}, {1, 1}}, Denied: make([]bool, 3)},
		"rows that fit": {Names: make([]string, 2), Events: make([]api.Event, 2), Prev: [][]int{nil, nil}, Auth: [][]int{nil, {0}}, Denied: make([]bool, 2)},
	} {
		if !Right(p) {
			t.Errorf("%s: not right", what)
		}
	}
}

// TestNotRight (12.1): one thing that is wrong is enough.
func TestNotRight(t *testing.T) {
	for what, p := range wrongPasts() {
		if Right(p) {
			t.Errorf("%s: right", what)
		}
	}
	for _, j := range []int{math.MinInt, math.MaxInt, -1, 1, 2} {
		p := api.Past{Names: make([]string, 2), Events: make([]api.Event, 2), Prev: make([][]int, 2), Auth: [][]int{nil, {0, j}}, Denied: make([]bool, 2)}
		if Right(p) {
			t.Errorf("an edge to %d: right", j)
		}
		p.Prev, p.Auth = p.Auth, p.Prev
		if Right(p) {
			t.Errorf("an edge of Prev to %d: right", j)
		}
	}
}

// TestNotRightAnswers: each call tells of a past that is not right what the chapter says.
func TestNotRightAnswers(t *testing.T) {
	for what, p := range wrongPasts() {
		for i := -1; i < 11; i++ {
			number(t, what+", level", Level(p, i), 0)
			is(t, what+", line", Line(p, i), "")
			is(t, what+", chain", Chain(p, []int{i}), "")
			is(t, what+", by power", ByPower(p, []int{i, 2}), "")
			is(t, what+", by line", ByLine(p, []int{7, 2}, i), "")
			number(t, what+", near", Near(p, []int{5, 2}, i), 2)
			number(t, what+", near itself", Near(p, []int{i, 8, 1}, i), 3)
			number(t, what+", near nothing", Near(p, nil, i), 0)
		}
	}
}

// TestChain (12.1): of one place and of several, in whatever order; those that are none are not there.
func TestChain(t *testing.T) {
	p := roomOf()
	for l, want := range map[string]string{
		"":              "",
		"0":             "",
		"1":             "0",
		"2":             "0 1",
		"3":             "0 1 2",
		"5":             "0 1 2 3",
		"6":             "0 1 2 3 4 5",
		"7":             "0 1 2",
		"8":             "0 1 2 3 5",
		"7 8":           "0 1 2 3 5",
		"8 7":           "0 1 2 3 5",
		"4 7":           "0 1 2",
		"3 5":           "0 1 2 3", // 3 is in the chain of 5, and told
		"1 3 1 1":       "0 1 2",
		"0 1":           "0",
		"0 0":           "",
		"-1":            "",
		"9":             "",
		"-1 9 2 -7 100": "0 1",
	} {
		is(t, "of "+l, Chain(p, row(t, l)), want)
	}
	is(t, "of any number", Chain(p, []int{math.MinInt, math.MaxInt, 1}), "0")
	is(t, "of nothing in nothing", Chain(api.Past{}, nil), "")
	is(t, "of none in nothing", Chain(api.Past{}, []int{0, -1, 1}), "")
}

// TestChainIsOfAuthAlone (12.1): what is followed, and who was denied, does not count.
func TestChainIsOfAuthAlone(t *testing.T) {
	b := &builder{}
	b.put(create(ann))
	b.put(message(ann))
	b.put(message(ann), 0, 0)
	b.put(message(ann))
	p := b.past
	is(t, "all are followed", Chain(p, []int{3}), "")
	is(t, "an edge twice", Chain(p, []int{2, 3}), "0")
	p.Denied = []bool{true, true, true, true}
	is(t, "denied", Chain(p, []int{2}), "0")
}

// TestChainByChance (12.1): against all ways, gone one by one.
func TestChainByChance(t *testing.T) {
	r := rand.New(rand.NewSource(121))
	long := 0
	for range 3000 {
		p := chancePast(r, r.Intn(14))
		set := chanceSet(r, len(p.Events))
		got := Chain(p, set)
		equal(t, "chain", got, modelChain(p, set))
		if t.Failed() {
			t.Fatalf("of %v by %v", set, p.Auth)
		}
		if len(got) > 3 {
			long++
		}
	}
	if long < 500 {
		t.Error("too few long ones:", long)
	}
}
