package dag

import (
	"math"
	"math/rand"
	"strconv"
	"testing"
)

// TestPastExample (8.2): the chapter's own.
func TestPastExample(t *testing.T) {
	g := diamond(t)
	equal(t, "past of d", g.Past([]int{3}), []int{0, 1, 2})
	equal(t, "chain of d", g.Chain([]int{3}), nil)
}

// TestPast (8.2): of one place, of several, of none; by prev edges for Past, by auth edges for Chain, and never by both.
func TestPast(t *testing.T) {
	g := several(t)
	for i, c := range []struct{ past, chain []int }{
		{nil, nil},
		{[]int{0}, []int{0}},
		{[]int{0}, nil},
		{nil, []int{0, 1}},
		{[]int{0, 1, 2}, []int{0, 1, 3}},
		{[]int{3}, []int{0, 2}},
		{[]int{0, 1, 2, 4}, []int{0, 2, 5}},
		{nil, []int{0, 1, 2, 3, 4, 5, 6}},
		{[]int{7}, nil},
		{[]int{0, 1, 2, 3, 4, 5, 6}, []int{8}},
	} {
		equal(t, "past of "+g.Name(i), g.Past([]int{i}), c.past)
		equal(t, "chain of "+g.Name(i), g.Chain([]int{i}), c.chain)
	}
	for _, c := range []struct{ l, past, chain []int }{
		{nil, nil, nil},
		{[]int{}, nil, nil},
		{[]int{0, 3}, nil, []int{0, 1}},
		{[]int{1, 2}, []int{0}, []int{0}},
		{[]int{0, 8}, []int{7}, nil},
		{[]int{5, 4}, []int{0, 1, 2, 3}, []int{0, 1, 2, 3}},
		{[]int{4, 6}, []int{0, 1, 2, 4}, []int{0, 1, 2, 3, 5}},
		{[]int{6, 4}, []int{0, 1, 2, 4}, []int{0, 1, 2, 3, 5}},
		{[]int{9, 8}, []int{0, 1, 2, 3, 4, 5, 6, 7}, []int{8}},
		{[]int{0, 1, 2, 3, 4, 5, 6, 7, 8, 9}, []int{0, 1, 2, 3, 4, 5, 6, 7}, []int{0, 1, 2, 3, 4, 5, 6, 8}},
	} {
		equal(t, "past of "+short(c.l), g.Past(c.l), c.past)
		equal(t, "chain of "+short(c.l), g.Chain(c.l), c.chain)
	}
}

// TestPastOfItsOwn (8.2): a place of l is there, if a way leads to it, and only then.
func TestPastOfItsOwn(t *testing.T) {
	g := diamond(t)
	equal(t, "1 and 3", g.Past([]int{1, 3}), []int{0, 1, 2})
	equal(t, "1 and 2", g.Past([]int{1, 2}), []int{0})
	equal(t, "0", g.Past([]int{0}), nil)
	equal(t, "0 and 1", g.Past([]int{0, 1}), []int{0})
}

// TestPastRows (8.2): places that stand twice, are not in order, or are none.
func TestPastRows(t *testing.T) {
	g := several(t)
	for _, want := range [][]int{{6}, {4, 5}, {0}, {9}, {8, 0}, {}} {
		past, chain := g.Past(want), g.Chain(want)
		var twice, mixed []int
		for i := len(want) - 1; i >= 0; i-- {
			twice = append(twice, want[i], want[i], want[i])
		}
		none := nowhere(g.Len())
		for i, p := range want {
			mixed = append(append(mixed, none[i]), p)
		}
		mixed = append(mixed, none...)
		for _, l := range [][]int{twice, mixed, append(twice, mixed...)} {
			equal(t, "past of "+short(l), g.Past(l), past)
			equal(t, "chain of "+short(l), g.Chain(l), chain)
		}
	}
}

// TestPastOfNowhere (8.2): places that are none have no past, one by one or all of them.
func TestPastOfNowhere(t *testing.T) {
	for _, g := range []*Graph{New(), diamond(t), several(t)} {
		none := nowhere(g.Len())
		if g.Len() == 0 {
			none = append(none, 0)
		}
		for _, i := range none {
			equal(t, "past of "+strconv.Itoa(i), g.Past([]int{i}), nil)
			equal(t, "chain of "+strconv.Itoa(i), g.Chain([]int{i}), nil)
		}
		equal(t, "past of all", g.Past(none), nil)
		equal(t, "chain of all", g.Chain(none), nil)
	}
}

// TestPastOfExtremes (8.2, R6): the greatest int and the least beside places.
func TestPastOfExtremes(t *testing.T) {
	g := diamond(t)
	equal(t, "past", g.Past([]int{math.MaxInt, 3, math.MinInt}), []int{0, 1, 2})
	equal(t, "past", g.Past([]int{math.MinInt, 1, math.MaxInt}), []int{0})
}

// TestPastModel (8.2): of chance graphs as by ways that are gone one by one.
func TestPastModel(t *testing.T) {
	r := rand.New(rand.NewSource(82))
	for range 200 {
		g, m := chance(t, r, r.Intn(10))
		for range 20 {
			l := row(r, g.Len(), 5)
			equal(t, "past of "+short(l), g.Past(l), m.back(m.prev, l))
			equal(t, "chain of "+short(l), g.Chain(l), m.back(m.auth, l))
		}
	}
}
