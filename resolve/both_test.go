package resolve

import (
	"math/rand"
	"slices"
	"testing"

	"agora/api"
	"agora/ranks"
)

// TestOneStateIsItsOwn (13.5): whatever it has, and however often it is told.
func TestOneStateIsItsOwn(t *testing.T) {
	r := rand.New(rand.NewSource(1351))
	for range 1000 {
		p, branches := chanceRoom(r, r.Intn(25))
		for _, s := range append(branches, chanceState(r, p)) {
			resolved(t, "once", p, [][]api.Spot{s}, s)
			resolved(t, "three times", p, [][]api.Spot{s, s, s}, s)
			equal(t, "settled", Settled([][]api.Spot{s, s}), s)
			equal(t, "contested", Contested([][]api.Spot{s, s}), nil)
			equal(t, "full", Full(p, [][]api.Spot{s, s}), nil)
		}
		if t.Failed() {
			t.Fatalf("%+v", p)
		}
	}
}

// TestOrderOfStatesDoesNotCount (13.5): nor how often one is told.
func TestOrderOfStatesDoesNotCount(t *testing.T) {
	r := rand.New(rand.NewSource(1352))
	unlike := 0
	for range 1000 {
		p, branches := chanceRoom(r, r.Intn(25))
		l := chanceStates(r, p, branches)
		want, _ := Resolve(p, l)
		settled, contested, full := Settled(l), Contested(l), Full(p, l)
		for range 3 {
			l = append(l, pick(r, l...))
			r.Shuffle(len(l), func(i, j int) { l[i], l[j] = l[j], l[i] })
			resolved(t, "resolved", p, l, want)
			equal(t, "settled", Settled(l), settled)
			equal(t, "contested", Contested(l), contested)
			equal(t, "full", Full(p, l), full)
		}
		if t.Failed() {
			t.Fatalf("%+v of %+v", l, p)
		}
		if len(contested) > 3 {
			unlike++
		}
	}
	if unlike < 300 {
		t.Error("too few that are unlike:", unlike)
	}
}

// chanceTurn tells places of a past in another order, each behind all that it leans on.
func chanceTurn(r *rand.Rand, p api.Past) []int {
	var told []int
	for len(told) < len(p.Events) {
		for _, i := range r.Perm(len(p.Events)) {
			waits := slices.ContainsFunc(p.Auth[i], func(j int) bool { return !slices.Contains(told, j) })
			if !waits && !slices.Contains(told, i) {
				told = append(told, i)
			}
		}
	}
	return told
}

// turned tells a past in another order, and where each place stands in it. What follows what is left out.
func turned(p api.Past, was []int) (api.Past, []int) {
	at := make([]int, len(was))
	for k, i := range was {
		at[i] = k
	}
	q := api.Past{Prev: make([][]int, len(was))}
	for _, i := range was {
		q.Names, q.Events, q.Denied = append(q.Names, p.Names[i]), append(q.Events, p.Events[i]), append(q.Denied, p.Denied[i])
		var auth []int
		for _, j := range p.Auth[i] {
			auth = append(auth, at[j])
		}
		q.Auth = append(q.Auth, auth)
	}
	return q, at
}

// TestOrderOfPastDoesNotCount (13.5): of the same events that came in another order, with unlike names, the same comes out.
func TestOrderOfPastDoesNotCount(t *testing.T) {
	r := rand.New(rand.NewSource(1353))
	moved := 0
	for range 1000 {
		p, branches := chanceRoom(r, r.Intn(25))
		l := chanceStates(r, p, branches)
		want, _ := Resolve(p, l)
		q, at := turned(p, chanceTurn(r, p))
		if !ranks.Right(q) {
			t.Fatal("not right")
		}
		other := copyStates(l)
		for _, s := range append(other, want) {
			for i := range s {
				s[i].At = at[s[i].At]
			}
		}
		resolved(t, "in another order", q, other, want)
		full := Full(p, l)
		for i := range full {
			full[i] = at[full[i]]
		}
		equal(t, "full", Full(q, other), rising(full))
		if t.Failed() {
			t.Fatalf("%v, %+v of %+v", at, l, p)
		}
		if len(Contested(l)) > 3 && !slices.IsSorted(at) {
			moved++
		}
	}
	if moved < 300 {
		t.Error("too few that moved:", moved)
	}
}

// TestNamesThatAreLike (13.5): where names are not unlike, places tell.
func TestNamesThatAreLike(t *testing.T) {
	b := &builder{}
	b.put(create(ann))
	b.put(join(ann), 0)
	one := b.add(title(ann, "one"), 5, name(7), 0, 1)
	other := b.add(title(ann, "other"), 5, name(7), 0, 1)
	p := b.past
	resolved(t, "the greater place is heard last", p, [][]api.Spot{stateOf(p, 0, 1, other), stateOf(p, 0, 1, one)}, stateOf(p, 0, 1, other))
}

// TestWhatIsSettledStays (13.5): and all else was contested, or leant on by some and not by all.
func TestWhatIsSettledStays(t *testing.T) {
	r := rand.New(rand.NewSource(1354))
	leant := 0
	for range 1000 {
		p, branches := chanceRoom(r, r.Intn(25))
		l := chanceStates(r, p, branches)
		got, _ := Resolve(p, l)
		if !right(p, got) {
			t.Fatalf("not right: %+v", got)
		}
		firm, contested, full := Settled(l), Contested(l), Full(p, l)
		for _, one := range firm {
			if !slices.Contains(got, one) {
				t.Fatalf("%+v did not stay in %+v", one, got)
			}
		}
		for _, one := range got {
			if slices.Contains(firm, one) {
				continue
			}
			if !slices.Contains(full, one.At) || p.Denied[one.At] {
				t.Fatalf("%+v was not to be heard: %v", one, full)
			}
			if !slices.Contains(contested, one.At) {
				leant++
			}
		}
	}
	if leant < 100 {
		t.Error("too few that were only leant on:", leant)
	}
}

// TestResolveAgain (13.5): what came out, told in the place of all states, is its own.
func TestResolveAgain(t *testing.T) {
	r := rand.New(rand.NewSource(1355))
	for range 300 {
		p, branches := chanceRoom(r, r.Intn(25))
		got, _ := Resolve(p, branches)
		resolved(t, "again", p, [][]api.Spot{got, got}, got)
	}
}
