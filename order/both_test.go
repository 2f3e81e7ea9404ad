package order

import (
	"math/rand"
	"slices"
	"testing"

	"agora/api"
)

// TestEachOnceBehindItsParents (9.3): where there is no ring, and ErrArg where there is one.
func TestEachOnceBehindItsParents(t *testing.T) {
	r := rand.New(rand.NewSource(931))
	for range 1000 {
		parents, rank := chance(r, r.Intn(60))
		l := linear(t, "without a ring", parents, rank)
		at := slices.Repeat([]int{-1}, len(parents))
		for n, i := range l {
			if i < 0 || i >= len(at) || at[i] >= 0 {
				t.Fatalf("%d is told twice, or is none", i)
			}
			at[i] = n
		}
		for i, row := range parents {
			for _, p := range row {
				if at[i] < 0 || at[i] <= at[p] {
					t.Fatalf("%d at %d, its parent %d at %d", i, at[i], p, at[p])
				}
			}
		}
		if len(l) < 2 {
			continue
		}
		// One that a thing stands behind, by a way to where it begins, is put behind that thing.
		ring := clone(parents)
		child := l[1+r.Intn(len(l)-1)]
		up := child
		for len(ring[up]) > 0 {
			up = ring[up][r.Intn(len(ring[up]))]
		}
		ring[up] = append(ring[up], child)
		if up != child {
			refused(t, "a ring", ring, rank)
		}
	}
}

// TestByRank (9.3): things without parents stand by rank, those of one rank by place.
func TestByRank(t *testing.T) {
	r := rand.New(rand.NewSource(932))
	for range 300 {
		_, rank := chance(r, r.Intn(40))
		l := linear(t, "no parents", make([][]int, len(rank)), rank)
		if len(l) != len(rank) {
			t.Fatalf("%d of %d", len(l), len(rank))
		}
		for n := 1; n < len(l); n++ {
			if a, b := l[n-1], l[n]; rank[a] > rank[b] || rank[a] == rank[b] && a >= b {
				t.Fatalf("%d of rank %d ahead of %d of rank %d", a, rank[a], b, rank[b])
			}
		}
	}
}

// TestNoneIsLeftOut (9.3): at each step what is told is the least of all that could be.
func TestNoneIsLeftOut(t *testing.T) {
	r := rand.New(rand.NewSource(933))
	for range 300 {
		parents, rank := chance(r, r.Intn(40))
		l := linear(t, "chance", parents, rank)
		for n, i := range l {
			for _, j := range l[n+1:] {
				waits := slices.ContainsFunc(parents[j], func(p int) bool { return !slices.Contains(l[:n], p) })
				if !waits && (rank[j] < rank[i] || rank[j] == rank[i] && j < i) {
					t.Fatalf("%d of rank %d ahead of %d of rank %d, which could be told", i, rank[i], j, rank[j])
				}
			}
		}
	}
}

// TestAllOfIt (9.3): what rows have in common and what they have not are all that they have, and nothing is both.
func TestAllOfIt(t *testing.T) {
	r := rand.New(rand.NewSource(934))
	for range 2000 {
		l := chanceRows(r, 5)
		union, common, apart := Union(l), Common(l), Apart(l)
		both := slices.Concat(common, apart)
		slices.Sort(both)
		equal(t, "both", both, union)
		for _, x := range everything(l) {
			if _, ok := slices.BinarySearch(union, x); !ok {
				t.Fatalf("%v: %d is not in %v", l, x, union)
			}
		}
		for _, told := range [][]int{union, common, apart} {
			for i := 1; i < len(told); i++ {
				if told[i] <= told[i-1] {
					t.Fatalf("%v: %v does not rise", l, told)
				}
			}
		}
	}
}

// TestRowsWritten (9.3): neither the order of rows, nor that of a row, nor how often something stands in it changes what is told.
func TestRowsWritten(t *testing.T) {
	r := rand.New(rand.NewSource(935))
	for range 500 {
		l := chanceRows(r, 5)
		other := clone(l)
		for i, row := range other {
			row = slices.Concat(row, row)
			r.Shuffle(len(row), func(a, b int) { row[a], row[b] = row[b], row[a] })
			other[i] = row
		}
		r.Shuffle(len(other), func(a, b int) { other[a], other[b] = other[b], other[a] })
		equal(t, "union", Union(other), Union(l))
		equal(t, "common", Common(other), Common(l))
		equal(t, "apart", Apart(other), Apart(l))
	}
	// The order of parents, and how often one stands, changes nothing either.
	for range 500 {
		parents, rank := chance(r, r.Intn(30))
		other := clone(parents)
		for i, row := range other {
			row = slices.Concat(row, row, row)
			r.Shuffle(len(row), func(a, b int) { row[a], row[b] = row[b], row[a] })
			other[i] = row
		}
		got, err := Linear(other, rank)
		if err != api.OK {
			t.Fatalf("error %d", err)
		}
		equal(t, "linear", got, linear(t, "linear", parents, rank))
	}
}
