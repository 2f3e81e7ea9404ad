package order

import (
	"math"
	"math/rand"
	"slices"
	"strconv"
	"strings"
	"testing"

	"agora/api"
)

// low and high are the least and the greatest rank that there are.
const low, high = int64(math.MinInt64), int64(math.MaxInt64)

// rows reads rows as a test writes them: numbers with blanks between, a bar between rows; a text without a bar is one row.
func rows(t *testing.T, text string) [][]int {
	t.Helper()
	l := [][]int{}
	for _, part := range strings.Split(text, "|") {
		l = append(l, row(t, part))
	}
	return l
}

func row(t *testing.T, text string) []int {
	t.Helper()
	l := []int{}
	for _, s := range strings.Fields(text) {
		n, err := strconv.Atoi(s)
		if err != nil {
			t.Fatal(err)
		}
		l = append(l, n)
	}
	return l
}

// short tells a row in not too many letters.
func short(l []int) string {
	var out []string
	for _, i := range l[:min(20, len(l))] {
		out = append(out, strconv.Itoa(i))
	}
	if len(l) > 20 {
		out = append(out, ".. of "+strconv.Itoa(len(l)))
	}
	return strings.Join(out, " ")
}

// equal tells whether two rows are the same, where none and an empty one are.
func equal(t *testing.T, what string, got, want []int) {
	t.Helper()
	if !slices.Equal(got, want) {
		t.Errorf("%s: %s, not %s", what, short(got), short(want))
	}
}

// linear asks for a row that there must be.
func linear(t *testing.T, what string, parents [][]int, rank []int64) []int {
	t.Helper()
	l, err := Linear(parents, rank)
	if err != api.OK {
		t.Errorf("%s: error %d", what, err)
	}
	return l
}

// refused tells whether there is no row, and ErrArg alone.
func refused(t *testing.T, what string, parents [][]int, rank []int64) {
	t.Helper()
	if l, err := Linear(parents, rank); err != api.ErrArg || len(l) != 0 {
		t.Errorf("%s: %s, error %d", what, short(l), err)
	}
}

// clone tells the same rows in other memory.
func clone(l [][]int) [][]int {
	var out [][]int
	for _, r := range l {
		out = append(out, slices.Clone(r))
	}
	return out
}

// modelLinear is the chapter's words, gone through one by one: each time all things are looked at.
func modelLinear(parents [][]int, rank []int64) ([]int, api.Errno) {
	if len(rank) != len(parents) {
		return nil, api.ErrArg
	}
	for _, row := range parents {
		for _, p := range row {
			if p < 0 || p > len(parents)-1 {
				return nil, api.ErrArg
			}
		}
	}
	var told []int
	for len(told) < len(parents) {
		best := -1
		for i := range parents {
			waits := slices.ContainsFunc(parents[i], func(p int) bool { return !slices.Contains(told, p) })
			if !waits && !slices.Contains(told, i) && (best < 0 || rank[i] < rank[best]) {
				best = i
			}
		}
		if best < 0 {
			return nil, api.ErrArg
		}
		told = append(told, best)
	}
	return told, api.OK
}

// everything tells all numbers that stand in rows, as they come, some of them twice.
func everything(rows [][]int) []int { return slices.Concat(rows...) }

// inAll tells whether a number is in every row.
func inAll(rows [][]int, x int) bool {
	return !slices.ContainsFunc(rows, func(l []int) bool { return !slices.Contains(l, x) })
}

// those tells the numbers of rows of which something holds, rising, each once.
func those(rows [][]int, holds func(x int) bool) []int {
	var l []int
	for _, x := range everything(rows) {
		if holds(x) && !slices.Contains(l, x) {
			l = append(l, x)
		}
	}
	slices.Sort(l)
	return l
}

// chance tells n things, each behind up to three others: those that stand ahead of it in a row by chance, so that there is no ring; with ranks of a few kinds.
func chance(r *rand.Rand, n int) ([][]int, []int64) {
	parents, rank := make([][]int, n), make([]int64, n)
	line := r.Perm(n)
	for at, i := range line {
		for range r.Intn(4) {
			if at > 0 {
				parents[i] = append(parents[i], line[r.Intn(at)])
			}
		}
	}
	kinds := []int64{low, low + 1, -1, 0, 1, 2, high - 1, high}
	few := 1 + r.Intn(len(kinds))
	for i := range rank {
		rank[i] = kinds[r.Intn(few)]
	}
	return parents, rank
}

// chanceRows tells up to n rows of numbers of a few kinds, in no order, some twice.
func chanceRows(r *rand.Rand, n int) [][]int {
	var l [][]int
	kinds := 1 + r.Intn(12)
	for range r.Intn(n + 1) {
		var row []int
		for range r.Intn(3 * kinds) {
			row = append(row, r.Intn(kinds)-2)
		}
		l = append(l, row)
	}
	return l
}

// roomy tells the same row with something behind its end.
func roomy[T any](l []T, behind T) []T {
	return append(append(make([]T, 0, len(l)+2), l...), behind, behind)[:len(l)]
}

// spoil writes over a row, and over what lies behind its end.
func spoil[T any](l []T, with T) {
	l = l[:cap(l)]
	for i := range l {
		l[i] = with
	}
}
