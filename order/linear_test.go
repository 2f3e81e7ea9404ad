package order

import (
	"math"
	"math/rand"
	"slices"
	"testing"

	"agora/api"
)

// TestLinearExample (9.1): the chapter's own.
func TestLinearExample(t *testing.T) {
	equal(t, "example", linear(t, "example", rows(t, "2||"), []int64{1, 3, 2}), []int{2, 0, 1})
}

// TestLinear (9.1): of those whose parents were told, the least rank, of these the least place.
func TestLinear(t *testing.T) {
	for _, c := range []struct {
		what, parents string
		rank          []int64
		want          []int
	}{
		{"one", "", []int64{7}, []int{0}},
		{"no parents, rising", "||", []int64{1, 2, 3}, []int{0, 1, 2}},
		{"no parents, falling", "||", []int64{3, 2, 1}, []int{2, 1, 0}},
		{"no parents, alike", "||", []int64{4, 4, 4}, []int{0, 1, 2}},
		{"no parents, some alike", "||||", []int64{2, 1, 2, 1, 0}, []int{4, 1, 3, 0, 2}},
		{"a line", "|0|1|2", []int64{0, 0, 0, 0}, []int{0, 1, 2, 3}},
		{"a line, the last place first", "1|2|3|", []int64{0, 0, 0, 0}, []int{3, 2, 1, 0}},
		{"a line, against the ranks", "|0|1", []int64{9, 5, 1}, []int{0, 1, 2}},
		{"a line, against ranks and places", "1|2|", []int64{1, 5, 9}, []int{2, 1, 0}},
		{"a child is told ahead of others", "||0", []int64{1, 3, 2}, []int{0, 2, 1}},
		{"a child of a small rank at once", "|0||", []int64{1, 0, 1, 1}, []int{0, 1, 2, 3}},
		{"a child of a great rank later", "|0||", []int64{1, 8, 1, 1}, []int{0, 2, 3, 1}},
		{"a small rank behind a great one", "1||", []int64{0, 5, 4}, []int{2, 1, 0}},
		{"a small rank behind the greatest", "3|||", []int64{0, 1, 2, 3}, []int{1, 2, 3, 0}},
		{"alike, by the least place", "|||0|0", []int64{1, 2, 2, 2, 1}, []int{0, 4, 1, 2, 3}},
		{"alike, came later with a smaller place", "2||", []int64{3, 3, 1}, []int{2, 0, 1}},
		{"two parents, both waited for", "|0|0|1 2", []int64{0, 1, 9, 0}, []int{0, 1, 2, 3}},
		{"two parents, the other first", "|0|0|1 2", []int64{0, 9, 1, 0}, []int{0, 2, 1, 3}},
		{"two parents and a stranger", "||0 1|", []int64{1, 5, 0, 3}, []int{0, 3, 1, 2}},
		{"a parent by two ways", "|0|0 1|", []int64{2, 6, 1, 5}, []int{0, 3, 1, 2}},
		{"a parent by two ways, written otherwise", "|0|1 0|", []int64{2, 6, 1, 5}, []int{0, 3, 1, 2}},
		{"several ways of several lengths", "|0|1|0 2|3 1 0|", []int64{5, 4, 3, 2, 1, 4}, []int{5, 0, 1, 2, 3, 4}},
		{"many children", "3|3|3|", []int64{3, 1, 2, 9}, []int{3, 1, 2, 0}},
		{"two lines in turn", "|0|1||3|4", []int64{1, 3, 5, 2, 4, 6}, []int{0, 3, 1, 4, 2, 5}},
		{"two lines, one first", "|0|1||3|4", []int64{1, 0, 0, 2, 0, 0}, []int{0, 1, 2, 3, 4, 5}},
		{"the shared test's", "1 2||1|", []int64{0, 5, 4, 5}, []int{1, 2, 0, 3}},
	} {
		equal(t, c.what, linear(t, c.what, rows(t, c.parents), c.rank), c.want)
	}
}

// TestLinearTwice (9.1): a parent that stands twice counts once.
func TestLinearTwice(t *testing.T) {
	for _, c := range []struct {
		parents string
		rank    []int64
		want    []int
	}{
		{"1 1|", []int64{0, 0}, []int{1, 0}},
		{"1 1 1 1||", []int64{0, 1, 2}, []int{1, 0, 2}},
		{"1 2 1||", []int64{0, 1, 2}, []int{1, 2, 0}},
		{"2 1 2 1 2||", []int64{0, 1, 2}, []int{1, 2, 0}},
		{"1 1 2||", []int64{0, 2, 1}, []int{2, 1, 0}},
		{"1 1|2 2|", []int64{0, 1, 2}, []int{2, 1, 0}},
		{"2 2|2|", []int64{1, 0, 5}, []int{2, 1, 0}},
		{"2|2 2|", []int64{0, 1, 5}, []int{2, 0, 1}},
	} {
		equal(t, c.parents, linear(t, c.parents, rows(t, c.parents), c.rank), c.want)
	}
}

// TestLinearNothing (9.1): no things at all.
func TestLinearNothing(t *testing.T) {
	for _, parents := range [][][]int{nil, {}} {
		for _, rank := range [][]int64{nil, {}} {
			equal(t, "nothing", linear(t, "nothing", parents, rank), nil)
		}
	}
}

// TestLinearRanks (9.1): ranks below zero, the least and the greatest; no difference of two is taken.
func TestLinearRanks(t *testing.T) {
	for _, c := range []struct {
		rank []int64
		want []int
	}{
		{[]int64{0, -1}, []int{1, 0}},
		{[]int64{-1, -2, -3}, []int{2, 1, 0}},
		{[]int64{1, -1, 0}, []int{1, 2, 0}},
		{[]int64{high, low}, []int{1, 0}},
		{[]int64{low, high}, []int{0, 1}},
		{[]int64{high, 0, low, -1, 1}, []int{2, 3, 1, 4, 0}},
		{[]int64{high, high - 1, low + 1, low}, []int{3, 2, 1, 0}},
		{[]int64{high, high, low, low}, []int{2, 3, 0, 1}},
		{[]int64{1 << 32, 1, 1<<32 + 1, 0}, []int{3, 1, 0, 2}},
		{[]int64{1, -1 << 32, 1 << 31, -1 << 31}, []int{1, 3, 0, 2}},
		{[]int64{1<<53 + 1, 1 << 53, 1<<53 + 2}, []int{1, 0, 2}},
	} {
		equal(t, "ranks", linear(t, "ranks", make([][]int, len(c.rank)), c.rank), c.want)
	}
	equal(t, "the least behind the greatest", linear(t, "ranks", rows(t, "1||"), []int64{low, high, 0}), []int{2, 1, 0})
	equal(t, "the greatest behind the least", linear(t, "ranks", rows(t, "1||"), []int64{high, low, 0}), []int{1, 2, 0})
}

// TestLinearRankCount (9.1): a rank too few or too many, whatever the parents are.
func TestLinearRankCount(t *testing.T) {
	for _, c := range []struct {
		parents [][]int
		rank    []int64
	}{
		{nil, []int64{0}},
		{[][]int{}, []int64{1, 2}},
		{[][]int{nil}, nil},
		{[][]int{{}}, []int64{}},
		{[][]int{nil}, []int64{0, 0}},
		{rows(t, "|0"), []int64{0}},
		{rows(t, "|0"), []int64{0, 0, 0}},
		{rows(t, "||"), []int64{1, 2}},
		{rows(t, "||"), []int64{1, 2, 3, 4}},
		{rows(t, "|2"), []int64{1, 2, 3}},
		{rows(t, "1|0"), []int64{0}},
	} {
		refused(t, "ranks", c.parents, c.rank)
	}
	// What lies behind a list's end is none of it.
	rank := []int64{1, 2, 3}
	refused(t, "ranks behind the end", rows(t, "||"), rank[:2])
	things := rows(t, "|0|1")
	refused(t, "things behind the end", things[:2], rank)
	refused(t, "a parent behind the end", rows(t, "2||")[:2], rank[:2])
}

// TestLinearNoParent (9.1): a parent below zero or too great, wherever it stands.
func TestLinearNoParent(t *testing.T) {
	for _, n := range []int{1, 2, 5} {
		for _, p := range []int{-1, -2, -n, n, n + 1, 2 * n, 1 << 31, 1 << 32, 1<<32 + 1, -1 << 32, math.MaxInt, math.MinInt, math.MinInt + 1} {
			for at := range n {
				parents, rank := make([][]int, n), make([]int64, n)
				parents[at] = []int{p}
				refused(t, "alone", parents, rank)
				if n > 1 {
					other := (at + 1) % n
					parents[at] = []int{other, p}
					refused(t, "behind another", parents, rank)
					parents[at] = []int{p, other, p}
					refused(t, "ahead of another", parents, rank)
				}
			}
		}
		parents, rank := make([][]int, n), make([]int64, n)
		for at := range n {
			if at != n-1 {
				parents[at] = []int{n - 1}
			}
		}
		if l := linear(t, "the last place", parents, rank); len(l) != n || l[0] != n-1 {
			t.Errorf("%d things behind the last: %s", n, short(l))
		}
	}
}

// TestLinearRing (9.1): a thing that is its own parent, and things behind one another in a ring, whatever else there is.
func TestLinearRing(t *testing.T) {
	for _, parents := range []string{
		"0", "0 0", "0|", "|1", "|0 1", "1 0|", "||2",
		"1|0", "1|0|", "|2|1", "0|1", "1|0|0", "1|0|3|2",
		"2|0|1", "1|2|0", "|3|1|2", "1 3|2 3|0 3|",
		"|0 3|1|2|3", "|0|1 4|2|3", "|0|1|2 3", "4|0|1|2|3",
	} {
		l := rows(t, parents)
		for _, ranks := range []func(i int) int64{
			func(int) int64 { return 0 },
			func(i int) int64 { return int64(i) },
			func(i int) int64 { return int64(-i) },
		} {
			rank := make([]int64, len(l))
			for i := range rank {
				rank[i] = ranks(i)
			}
			refused(t, parents, l, rank)
		}
	}
}

// TestLinearModel (9.1): chance things, right and wrong, as the chapter's words gone through one by one.
func TestLinearModel(t *testing.T) {
	r := rand.New(rand.NewSource(91))
	told := 0
	for range 4000 {
		parents, rank := chance(r, r.Intn(14))
		if len(parents) > 0 && r.Intn(3) == 0 {
			i := r.Intn(len(parents))
			parents[i] = append(parents[i], r.Intn(len(parents)+2)-1)
		}
		if r.Intn(20) == 0 {
			rank = append(rank, 0)
		}
		got, err := Linear(parents, rank)
		want, wrong := modelLinear(parents, rank)
		if err != wrong || !slices.Equal(got, want) {
			t.Fatalf("%v, ranks %v: %v, error %d, not %v, %d", parents, rank, got, err, want, wrong)
		}
		if err == api.OK {
			told++
		}
	}
	if told < 2000 || told > 3900 {
		t.Errorf("%d of 4000 told", told)
	}
}
