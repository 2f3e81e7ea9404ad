package room

import (
	"fmt"
	"math/rand"
	"slices"
	"strings"
	"testing"

	"agora/api"
	"agora/resolve"
)

// named tells a state by its events' names.
func named(r *Room, s []api.Spot) string {
	var l []string
	for _, one := range s {
		l = append(l, one.Type+"/"+one.Key+"="+r.Known(one.At).Name)
	}
	return strings.Join(l, " ")
}

// byName tells all of a room by the names of its events: a line for each name, and the whole under none.
func byName(r *Room) map[string]string {
	l := map[string]string{}
	for i := range r.Len() {
		l[r.Known(i).Name] = fmt.Sprintf("denied %t, ahead %s, behind %s", r.Denied(i), named(r, r.Ahead(i)), named(r, r.Behind(i)))
	}
	var heads []string
	for _, i := range r.Heads() {
		heads = append(heads, r.Known(i).Name)
	}
	slices.Sort(heads)
	l[""] = fmt.Sprintf("heads %v, state %s, residents %v", heads, named(r, r.State()), r.Residents())
	return l
}

// alikeByName holds two rooms of the same events to tell the same by name.
func alikeByName(t *testing.T, what string, r, other *Room) {
	t.Helper()
	got, want := byName(other), byName(r)
	if len(got) != len(want) {
		t.Fatalf("%s: %d names, not %d", what, len(got), len(want))
	}
	for n, line := range want {
		if got[n] != line {
			t.Fatalf("%s: %s: %s, not %s", what, n, got[n], line)
		}
	}
}

// shuffled tells the events of a room in another order, each behind all that it follows and leans on.
func shuffled(r *rand.Rand, h *Room) []api.Known {
	told := make([]bool, h.Len())
	p := h.Past()
	var l []api.Known
	for len(l) < h.Len() {
		for _, i := range r.Perm(h.Len()) {
			waits := slices.ContainsFunc(slices.Concat(p.Prev[i], p.Auth[i]), func(j int) bool { return !told[j] })
			if !waits && !told[i] {
				told[i] = true
				l = append(l, h.Known(i))
			}
		}
	}
	return l
}

// filled tells a room of these events.
func filled(t *testing.T, l []api.Known) *Room {
	t.Helper()
	h := empty(t)
	for _, k := range l {
		if _, err := h.Add(k); err != api.OK {
			t.Fatalf("%s: error %d", k.Name, err)
		}
	}
	return h.Room
}

// TestOrderDoesNotCount (14.4): of the same events, with unlike names, in whatever order they came, all is the same by name.
func TestOrderDoesNotCount(t *testing.T) {
	r := rand.New(rand.NewSource(1441))
	moved, several := 0, 0
	for range 200 {
		h, _ := chance(t, r, r.Intn(30))
		for range 3 {
			l := shuffled(r, h.Room)
			other := filled(t, l)
			alikeByName(t, "in another order", h.Room, other)
			if at, _ := other.Place(h.Known(h.Len() - 1).Name); at != h.Len()-1 && len(h.Heads()) > 1 {
				moved++
			}
		}
		if len(h.Heads()) > 2 {
			several++
		}
	}
	if moved < 100 || several < 50 {
		t.Error("too few:", moved, several)
	}
}

// TestOrderOfBranches (14.4): by hand: branches one behind the other, and one event of each in turn.
func TestOrderOfBranches(t *testing.T) {
	h := forked(t)
	h.put(title(bob, "x"), 8)
	h.put(message(ann), 6, 9)
	h.put(title(bob, "y"), 11, 7)
	h.bad(with(h.draft(title(cat, "z"), 6, 12), func(e *api.Event) { e.Auth = names(0, 2, 5) }))
	for _, text := range []string{
		"0 1 2 3 4 5 6 7 8 9 10 11 12 13 14",
		"0 1 2 3 4 5 10 9 8 7 6 12 14 11 13",
		"0 1 2 3 4 5 8 11 7 13 9 10 6 12 14",
		"0 1 2 3 4 5 6 9 12 14 7 8 11 13 10",
	} {
		var l []api.Known
		for _, i := range row(t, text) {
			l = append(l, h.Known(i))
		}
		alikeByName(t, text, h.Room, filled(t, l))
	}
}

// TestPartsAreAlike (14.4): where two rooms have some of the same events, each is denied by both or by none, behind the same states.
func TestPartsAreAlike(t *testing.T) {
	r := rand.New(rand.NewSource(1442))
	for range 60 {
		h, _ := chance(t, r, 20)
		l := shuffled(r, h.Room)
		part := filled(t, l[:len(l)/2])
		all, some := byName(h.Room), byName(part)
		for n, line := range some {
			if n != "" && all[n] != line {
				t.Fatalf("%s: %s, not %s", n, line, all[n])
			}
		}
		for _, k := range l[len(l)/2:] {
			part.Add(k)
		}
		alikeByName(t, "the rest came", h.Room, part)
	}
}

// TestWhatWasToldStays (14.4): what was denied stays so, and so do the states ahead and behind, whatever comes.
func TestWhatWasToldStays(t *testing.T) {
	r := rand.New(rand.NewSource(1443))
	denied := 0
	for range 15 {
		h, _ := chance(t, r, 30)
		other := empty(t)
		var was []string
		for i := range h.Len() {
			_, err := other.Add(h.Known(i))
			now := look(other.Room)
			now = now[:len(now)-1]
			if err != api.OK || !slices.Equal(now[:i], was) {
				t.Fatalf("error %d: %v became %v", err, was, now)
			}
			if other.Denied(i) {
				denied++
			}
			was = now
		}
	}
	if denied < 100 {
		t.Error("too few denied ones:", denied)
	}
}

// TestAllCameAhead (14.4): what any event follows or leans on came ahead of it; so did all of the state ahead of it.
func TestAllCameAhead(t *testing.T) {
	r := rand.New(rand.NewSource(1444))
	for range 60 {
		h, _ := chance(t, r, r.Intn(30))
		p := h.Past()
		for i := range h.Len() {
			for _, j := range slices.Concat(p.Prev[i], p.Auth[i]) {
				if j < 0 || j >= i {
					t.Fatalf("%d stands on %d", i, j)
				}
			}
			for _, one := range h.Ahead(i) {
				if one.At >= i || h.Denied(one.At) {
					t.Fatalf("%+v is ahead of %d", one, i)
				}
			}
		}
	}
}

// TestStatesByOneAnother (14): each state is what comes of the states behind what it stands on, by the calls alone.
func TestStatesByOneAnother(t *testing.T) {
	r := rand.New(rand.NewSource(1445))
	for range 60 {
		h, _ := chance(t, r, r.Intn(30))
		p := h.Past()
		behind := func(l []int) [][]api.Spot {
			var states [][]api.Spot
			for _, i := range l {
				states = append(states, h.Behind(i))
			}
			return states
		}
		for i := range h.Len() {
			want, err := resolve.Resolve(p, behind(p.Prev[i]))
			if err != api.OK {
				t.Fatalf("error %d", err)
			}
			equal(t, fmt.Sprint("ahead of ", i), h.Ahead(i), want)
			equal(t, fmt.Sprint("come of what follows ", i), h.Come(p.Prev[i]), want)
			if e := p.Events[i]; !p.Denied[i] && e.IsState {
				want = slices.DeleteFunc(want, func(one api.Spot) bool { return one.Type == e.Type && one.Key == e.Key })
				want = ordered(append(want, api.Spot{Type: e.Type, Key: e.Key, At: i}))
			}
			equal(t, fmt.Sprint("behind ", i), h.Behind(i), want)
		}
		want, _ := resolve.Resolve(p, behind(h.Heads()))
		equal(t, "state", h.State(), want)
		if t.Failed() {
			t.FailNow()
		}
	}
}
