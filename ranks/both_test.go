package ranks

import (
	"math/rand"
	"slices"
	"testing"

	"agora/api"
)

// TestEachOnceBehindItsChain (12.7).
func TestEachOnceBehindItsChain(t *testing.T) {
	r := rand.New(rand.NewSource(1271))
	long := 0
	for range 1500 {
		p := chancePast(r, r.Intn(40))
		set := chanceSet(r, len(p.Events))
		told := ByPower(p, set)
		equal(t, "each once", slices.Sorted(slices.Values(told)), slices.Sorted(slices.Values(modelSet(p, set))))
		for k, i := range told {
			for _, j := range Chain(p, []int{i}) {
				if at := slices.Index(told, j); at > k {
					t.Errorf("%d is told ahead of %d, on which it leans", i, j)
				}
			}
		}
		if t.Failed() {
			t.Fatalf("%v of %+v", told, p.Auth)
		}
		if len(told) > 10 {
			long++
		}
	}
	if long < 300 {
		t.Error("too few long ones:", long)
	}
}

// TestOrderOfSetDoesNotCount (12.7): nor how often a place is told.
func TestOrderOfSetDoesNotCount(t *testing.T) {
	r := rand.New(rand.NewSource(1272))
	for range 500 {
		p := chancePast(r, 1+r.Intn(30))
		n := len(p.Events)
		set, by := chanceSet(r, n), r.Intn(n+2)-1
		power, line, chain := ByPower(p, set), ByLine(p, set, by), Chain(p, set)
		for range 4 {
			set = append(set, set[:len(set)/3]...)
			r.Shuffle(len(set), func(i, j int) { set[i], set[j] = set[j], set[i] })
			equal(t, "by power", ByPower(p, set), power)
			equal(t, "by line", ByLine(p, set, by), line)
			equal(t, "chain", Chain(p, set), chain)
		}
		if t.Failed() {
			t.Fatalf("%v of %+v", set, p.Auth)
		}
	}
}

// TestLineLeadsBackwards (12.7): each place of a line is below the one ahead of it, in its chain, and the rest of a line is a line.
func TestLineLeadsBackwards(t *testing.T) {
	r := rand.New(rand.NewSource(1273))
	long := 0
	for range 1500 {
		p := chancePast(r, 1+r.Intn(30))
		i := r.Intn(len(p.Events))
		line := Line(p, i)
		if len(line) == 0 || line[0] != i {
			t.Fatalf("the line of %d: %v", i, line)
		}
		chain := Chain(p, []int{i})
		for k, at := range line[1:] {
			if at >= line[k] || !slices.Contains(chain, at) || p.Events[at].Type != api.TPower {
				t.Fatalf("the line of %d: %v", i, line)
			}
			equal(t, "the rest", Line(p, at), line[k+1:])
			number(t, "near its own line", Near(p, line, at), k+1)
		}
		if len(line) > 2 {
			long++
		}
	}
	if long < 200 {
		t.Error("too few long ones:", long)
	}
}

// TestOrderByPast (12.4, 12.6): of the same events that came in another order, with unlike names, the same is told, by name.
func TestOrderByPast(t *testing.T) {
	r := rand.New(rand.NewSource(1274))
	moved := 0
	for range 500 {
		p := chancePast(r, 2+r.Intn(25))
		n := len(p.Events)
		for i := range n {
			p.Names[i] = string(rune('a'+(i*7)%26)) + string(rune('a'+i))
		}
		was := chanceTurn(r, p)
		q, at := turned(p, was)
		if !Right(q) {
			t.Fatal("not right")
		}
		if !slices.IsSorted(was) {
			moved++
		}
		set, by := chanceSet(r, n), r.Intn(n)
		names := func(p api.Past, l []int) (out []string) {
			for _, i := range l {
				out = append(out, p.Names[i])
			}
			return out
		}
		var other []int
		for _, i := range modelSet(p, set) {
			other = append(other, at[i])
		}
		if got, want := names(q, ByPower(q, other)), names(p, ByPower(p, set)); !slices.Equal(got, want) {
			t.Fatalf("by power: %v, not %v", got, want)
		}
		if got, want := names(q, ByLine(q, other, at[by])), names(p, ByLine(p, set, by)); !slices.Equal(got, want) {
			t.Fatalf("by line: %v, not %v", got, want)
		}
		if got, want := names(q, Line(q, at[by])), names(p, Line(p, by)); !slices.Equal(got, want) {
			t.Fatalf("line: %v, not %v", got, want)
		}
	}
	if moved < 200 {
		t.Error("too few moved:", moved)
	}
}

// chanceTurn tells places of a past in another order, each behind all that it leans on.
func chanceTurn(r *rand.Rand, p api.Past) []int {
	var told []int
	for len(told) < len(p.Events) {
		for _, i := range r.Perm(len(p.Events)) {
			waits := slices.ContainsFunc(p.Auth[i], func(j int) bool { return !slices.Contains(told, j) })
			if !waits && !slices.Contains(told, i) {
				told = append(told, i)
			}
		}
	}
	return told
}

// turned tells a past in another order, and where each place stands in it. What follows what is left out.
func turned(p api.Past, was []int) (api.Past, []int) {
	at := make([]int, len(was))
	for k, i := range was {
		at[i] = k
	}
	q := api.Past{Prev: make([][]int, len(was)), Denied: make([]bool, len(was))}
	for _, i := range was {
		q.Names, q.Events = append(q.Names, p.Names[i]), append(q.Events, p.Events[i])
		var auth []int
		for _, j := range p.Auth[i] {
			auth = append(auth, at[j])
		}
		q.Auth = append(q.Auth, auth)
	}
	return q, at
}
