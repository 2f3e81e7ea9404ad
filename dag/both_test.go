package dag

import (
	"math/rand"
	"slices"
	"testing"
)

// rising tells whether each place is greater than the one ahead of it.
func rising(l []int) bool {
	for i := 1; i < len(l); i++ {
		if l[i] <= l[i-1] {
			return false
		}
	}
	return true
}

// TestNothingLeadsForwards (8.4): rows are below their place, a past below the greatest of its row; all rise.
func TestNothingLeadsForwards(t *testing.T) {
	r := rand.New(rand.NewSource(841))
	for range 100 {
		g, _ := chance(t, r, 1+r.Intn(40))
		for i := range g.Len() {
			for _, l := range [][]int{g.Prev(i), g.Auth(i), g.Past([]int{i}), g.Chain([]int{i})} {
				if !rising(l) || len(l) > 0 && (l[0] < 0 || l[len(l)-1] >= i) {
					t.Fatalf("place %d: %v", i, l)
				}
			}
		}
		for range 20 {
			l := row(r, g.Len(), 6)
			greatest := -1
			for _, i := range l {
				if i < g.Len() {
					greatest = max(greatest, i)
				}
			}
			for _, b := range [][]int{g.Past(l), g.Chain(l)} {
				if !rising(b) || len(b) > 0 && (b[0] < 0 || b[len(b)-1] >= greatest) {
					t.Fatalf("of %v: %v", l, b)
				}
			}
			if !rising(g.Heads(keeps(r, g.Len()))) {
				t.Fatal("heads do not rise")
			}
		}
	}
}

// TestWhatWasAnsweredStays (8.4): however much comes, and is refused, afterwards.
func TestWhatWasAnsweredStays(t *testing.T) {
	r := rand.New(rand.NewSource(842))
	for range 30 {
		g := New()
		was := look(g)
		var names []string
		for i := range 25 {
			name := string(rune('a' + i))
			mustAdd(t, g, name, some(r, names, 4), some(r, names, 4))
			names = append(names, name)
			g.Add(name, names, nil)
			g.Add("", names, nil)
			g.Add("!", append([]string{"?"}, names...), names)
			g.Missing([]string{"!", name})
			g.Heads(keeps(r, i))
			now := look(g)
			if len(now.names) != i+1 || !was.begins(now) {
				t.Fatalf("%s changed what was there", name)
			}
			for j, n := range names {
				if at, ok := g.Place(n); at != j || !ok {
					t.Fatalf("%s: place %d, %t, not %d", n, at, ok, j)
				}
			}
			was = now
		}
	}
}

// union tells what stands in one row or another, rising.
func union(a, b []int) []int {
	l := append(slices.Clone(a), b...)
	slices.Sort(l)
	return slices.Compact(l)
}

// TestPastTogether (8.4): the past of two rows together is both of theirs; that of a row what its places have.
func TestPastTogether(t *testing.T) {
	r := rand.New(rand.NewSource(843))
	for range 200 {
		g, _ := chance(t, r, r.Intn(30))
		for range 10 {
			a, b := row(r, g.Len(), 4), row(r, g.Len(), 4)
			both := append(slices.Clone(a), b...)
			equal(t, "past", g.Past(both), union(g.Past(a), g.Past(b)))
			equal(t, "chain", g.Chain(both), union(g.Chain(a), g.Chain(b)))
		}
		for i := range g.Len() {
			equal(t, "past of a past", g.Past([]int{i}), union(g.Prev(i), g.Past(g.Prev(i))))
			equal(t, "chain of a chain", g.Chain([]int{i}), union(g.Auth(i), g.Chain(g.Auth(i))))
		}
	}
}

// TestAllUnderHeads (8.4): where all that kept places follow is kept, each is a head, or in the past of heads, and not both.
func TestAllUnderHeads(t *testing.T) {
	r := rand.New(rand.NewSource(844))
	for range 300 {
		g, _ := chance(t, r, r.Intn(30))
		l := row(r, g.Len(), 5)
		keep := make([]bool, g.Len())
		for _, i := range union(l, g.Past(l)) {
			if i >= 0 && i < g.Len() {
				keep[i] = true
			}
		}
		heads := g.Heads(keep)
		past := g.Past(heads)
		for i, k := range keep {
			if in, out := slices.Contains(heads, i), slices.Contains(past, i); k != (in || out) || in && out {
				t.Fatalf("place %d: kept %t, a head %t, in their past %t", i, k, in, out)
			}
		}
	}
}
