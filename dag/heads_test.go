package dag

import (
	"math/rand"
	"strings"
	"testing"
)

// kept tells which of n places are kept.
func kept(n int, places ...int) []bool {
	l := make([]bool, n)
	for _, i := range places {
		l[i] = true
	}
	return l
}

// TestHeadsExample (8.3): the chapter's own.
func TestHeadsExample(t *testing.T) {
	g := diamond(t)
	equal(t, "all but d", g.Heads(kept(4, 0, 1, 2)), []int{1, 2})
	equal(t, "all", g.Heads(kept(4, 0, 1, 2, 3)), []int{3})
}

// TestHeads (8.3): of some and of all; only prev edges of kept places count, and those alone that lead to a place at once.
func TestHeads(t *testing.T) {
	g := several(t)
	for what, c := range map[string]struct {
		kept []bool
		want []int
	}{
		"all":                       {kept(10, 0, 1, 2, 3, 4, 5, 6, 7, 8, 9), []int{8, 9}},
		"none":                      {kept(10), nil},
		"nothing":                   {nil, nil},
		"one":                       {kept(10, 4), []int{4}},
		"the first":                 {kept(10, 0), []int{0}},
		"the last":                  {kept(10, 9), []int{9}},
		"one that leans on another": {kept(10, 1, 3), []int{1, 3}},
		"one that does both":        {kept(10, 0, 1), []int{1}},
		"unlinked":                  {kept(10, 0, 3, 7), []int{0, 3, 7}},
		"a way by one not kept":     {kept(10, 0, 4), []int{0, 4}},
		"the same, and beside it":   {kept(10, 0, 2, 4), []int{4}},
		"a long way, one not kept":  {kept(10, 1, 2, 6), []int{1, 2, 6}},
		"an edge beside a way":      {kept(10, 0, 6), []int{6}},
		"all but the heads":         {kept(10, 0, 1, 2, 3, 4, 5, 6, 7), []int{5, 6, 7}},
		"what nobody kept follows":  {kept(10, 5, 6, 7), []int{5, 6, 7}},
	} {
		equal(t, what, g.Heads(c.kept), c.want)
	}
}

// TestHeadsShort (8.3): what kept does not reach is not kept.
func TestHeadsShort(t *testing.T) {
	g := diamond(t)
	for n, want := range [][]int{nil, {0}, {1}, {1, 2}, {3}} {
		l := make([]bool, n)
		for i := range l {
			l[i] = true
		}
		equal(t, "the first ones", g.Heads(l), want)
		behind := append(append([]bool{}, l...), true, true, true, true)
		equal(t, "what lies behind the end", g.Heads(behind[:n]), want)
	}
}

// TestHeadsLong (8.3): what kept tells of places that are none does not count.
func TestHeadsLong(t *testing.T) {
	g := diamond(t)
	for _, more := range []int{1, 2, 4, 1000} {
		for _, truth := range []bool{false, true} {
			all, but := kept(4, 0, 1, 2, 3), kept(4, 0, 1, 2)
			for range more {
				all, but = append(all, truth), append(but, truth)
			}
			equal(t, "all", g.Heads(all), []int{3})
			equal(t, "all but d", g.Heads(but), []int{1, 2})
		}
	}
	equal(t, "no things", New().Heads(kept(3, 0, 1, 2)), nil)
}

// TestHeadsGrow (8.3): a place is no head any more when a kept one follows it.
func TestHeadsGrow(t *testing.T) {
	g := New()
	all := kept(5, 0, 1, 2, 3, 4)
	for _, c := range []struct {
		l    line
		want []int
	}{
		{line{"a", "", ""}, []int{0}},
		{line{"b", "", ""}, []int{0, 1}},
		{line{"c", "", "a b"}, []int{0, 1, 2}},
		{line{"d", "b", ""}, []int{0, 2, 3}},
		{line{"e", "a d c b", ""}, []int{4}},
	} {
		mustAdd(t, g, c.l.name, strings.Fields(c.l.prev), strings.Fields(c.l.auth))
		equal(t, c.l.name, g.Heads(all), c.want)
	}
	equal(t, "as it was", g.Heads(all[:4]), []int{0, 2, 3})
}

// TestHeadsModel (8.3): of chance graphs as the chapter's words gone through one by one.
func TestHeadsModel(t *testing.T) {
	r := rand.New(rand.NewSource(83))
	for range 300 {
		g, m := chance(t, r, r.Intn(14))
		for range 20 {
			l := keeps(r, g.Len())
			equal(t, "heads", g.Heads(l), m.heads(l))
		}
	}
}
