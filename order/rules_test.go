package order

import (
	"math/rand"
	"slices"
	"testing"
)

// TestCallsEnd (R1): on a long line, on many edges, on ways that are very many, on a great ring.
func TestCallsEnd(t *testing.T) {
	const n = 100000
	line, star, rank, falling, ring := make([][]int, n), make([][]int, n), make([]int64, n), make([]int64, n), make([][]int, n)
	up := make([]int, n)
	for i := range n {
		up[i] = i
		rank[i], falling[i] = int64(i), int64(-i)
		ring[i] = []int{(i + 1) % n}
		if i > 0 {
			line[i], star[i] = []int{i - 1}, []int{0}
		}
	}
	equal(t, "a line", linear(t, "a line", line, falling), up)
	equal(t, "a star", linear(t, "a star", star, rank), up)
	down := append([]int{0}, slices.Clone(up[1:])...)
	slices.Reverse(down[1:])
	equal(t, "a star, falling", linear(t, "a star", star, falling), down)
	refused(t, "a ring", ring, rank)
	// Each thing stands behind all that are ahead: so many ways that they can't be gone one by one.
	wide := make([][]int, 1000)
	for i := range wide {
		wide[i] = up[:i]
	}
	equal(t, "all ways", linear(t, "all ways", wide, falling[:1000]), up[:1000])
	long := slices.Repeat([]int{1}, 1000000)
	equal(t, "one parent very often", linear(t, "often", [][]int{long, nil, nil}, []int64{0, 1, 2}), []int{1, 0, 2})
}

// TestLongRows (R1, 9.2): very many rows, very long ones.
func TestLongRows(t *testing.T) {
	var many [][]int
	for i := range 50000 {
		many = append(many, []int{i, -1, i})
	}
	equal(t, "common", Common(many), []int{-1})
	if u, a := Union(many), Apart(many); len(u) != 50001 || len(a) != 50000 || u[0] != -1 || a[0] != 0 {
		t.Errorf("%s; %s", short(u), short(a))
	}
	long := make([]int, 500000)
	for i := range long {
		long[i] = (len(long) - i) / 2
	}
	if u, a := Union([][]int{long, {7, 8}}), Apart([][]int{long, {7, 8}}); len(u) != 250001 || len(a) != 249999 {
		t.Errorf("%s; %s", short(u), short(a))
	}
	equal(t, "common", Common([][]int{long, {8, 7, -3}}), []int{7, 8})
}

// TestEmptyListsAreTheSame (R3).
func TestEmptyListsAreTheSame(t *testing.T) {
	rank := []int64{3, 2, 1}
	equal(t, "linear", linear(t, "nil", [][]int{nil, {0}, nil}, rank), linear(t, "empty", [][]int{{}, {0}, {}}, rank))
	for _, l := range [][][]int{{nil, {1}}, {{}, {1}}} {
		equal(t, "union", Union(l), []int{1})
		equal(t, "common", Common(l), nil)
		equal(t, "apart", Apart(l), []int{1})
	}
}

// TestHandedInIsNotChanged (R4): rows, ranks, and what lies behind their ends, where there is an error, too.
func TestHandedInIsNotChanged(t *testing.T) {
	for _, text := range []string{"", "2 1 2||1", "1 1||0 1 0", "1|0", "9|", "3 1 2|1|2 2 1|", "0"} {
		l := rows(t, text)
		for i := range l {
			l[i] = roomy(l[i], 7)
		}
		l = roomy(l, []int{5})
		rank := roomy(make([]int64, len(l)), 8)
		for i := range rank {
			rank[i] = int64(-i)
		}
		was, ranks := clone(l[:cap(l)]), slices.Clone(rank[:cap(rank)])
		var behind [][]int
		for _, row := range l {
			behind = append(behind, slices.Clone(row[:cap(row)]))
		}
		Linear(l, rank)
		Linear(l, rank[:len(rank)-1])
		Union(l)
		Common(l)
		Apart(l)
		if !slices.EqualFunc(l[:cap(l)], was, slices.Equal) || !slices.Equal(rank[:cap(rank)], ranks) {
			t.Errorf("%s: %v became %v, ranks %v", text, was, l[:cap(l)], rank[:cap(rank)])
		}
		for i, row := range l {
			if !slices.Equal(row[:cap(row)], behind[i]) {
				t.Errorf("%s: %v became %v", text, behind[i], row[:cap(row)])
			}
		}
	}
}

// TestHandedOutIsNew (R4): who writes over what was handed in, or over an answer, changes no answer.
func TestHandedOutIsNew(t *testing.T) {
	rank := []int64{2, 1, 0}
	for what, tell := range map[string]func(l [][]int) []int{
		"linear": func(l [][]int) []int { return linear(t, "linear", l, rank) },
		"union":  Union,
		"common": Common,
		"apart":  Apart,
	} {
		for _, text := range []string{"1||", "||", "1|2|", "|0|0 1", "0 1 2", "2 1|1 2", "1 2|2|2", "0 2|1"} {
			l := rows(t, text)
			// Not all rows are parents of three things without a ring.
			if what == "linear" && (len(l) != len(rank) || slices.Contains(l[2], 2)) {
				continue
			}
			one, other := tell(l), tell(l)
			want := slices.Clone(other)
			spoil(one, -7)
			equal(t, what+", another answer", other, want)
			_ = append(other[:len(other):len(other)], 5)
			equal(t, what+", a later answer", tell(l), want)
			for _, row := range l {
				spoil(row, 9)
			}
			equal(t, what+", what was told of rows that were changed", other, want)
		}
	}
	l := rows(t, "2 1|1 2")
	for _, tell := range []func([][]int) []int{Union, Common, Apart} {
		spoil(tell(l), -7)
		_ = append(tell(l), 5)
	}
	if !slices.EqualFunc(l, rows(t, "2 1|1 2"), slices.Equal) {
		t.Errorf("rows became %v", l)
	}
}

// TestRanksAreNotKept (R4): a rank that is changed afterwards changes what is told next alone.
func TestRanksAreNotKept(t *testing.T) {
	parents, rank := make([][]int, 3), []int64{3, 2, 1}
	was := linear(t, "was", parents, rank)
	rank[0] = 0
	equal(t, "told", was, []int{2, 1, 0})
	equal(t, "told then", linear(t, "then", parents, rank), []int{0, 2, 1})
	parents[0] = []int{1}
	equal(t, "told", was, []int{2, 1, 0})
	equal(t, "told at last", linear(t, "at last", parents, rank), []int{2, 1, 0})
}

// TestTheSameEachTime (R5): whatever order a map is ranged in.
func TestTheSameEachTime(t *testing.T) {
	r := rand.New(rand.NewSource(5))
	for range 20 {
		parents, rank := chance(r, 200)
		told := linear(t, "told", parents, rank)
		var l [][]int
		for range 4 {
			l = append(l, r.Perm(300)[:200])
		}
		union, common, apart := Union(l), Common(l), Apart(l)
		for range 20 {
			equal(t, "linear", linear(t, "again", parents, rank), told)
			equal(t, "union", Union(l), union)
			equal(t, "common", Common(l), common)
			equal(t, "apart", Apart(l), apart)
			equal(t, "in other memory", Apart(clone(l)), apart)
			equal(t, "in other memory", linear(t, "again", clone(parents), slices.Clone(rank)), told)
		}
	}
}
