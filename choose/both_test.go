package choose

import (
	"fmt"
	"math/rand"
	"slices"
	"testing"

	"agora/api"
)

// settles puts a draft in under a new name: it must not be denied, and there must be as many heads less as it follows, and one more.
func (h *house) settles(what string, d api.Event) {
	h.t.Helper()
	was, new := h.Heads(), h.Len()
	// A new name, which may stand anywhere among the others.
	named := name(0x5851f42d4c957f2d * (new + 1))
	at, denied := h.add(named, d)
	if denied {
		h.t.Fatalf("%s: denied: %+v", what, d)
	}
	heads := h.Heads()
	if len(heads) != len(was)-len(d.Prev)+1 || !slices.Contains(heads, at) {
		h.t.Fatalf("%s: heads %v became %v by what follows %v", what, was, heads, d.Prev)
	}
	for _, i := range was {
		if slices.Contains(heads, i) == slices.Contains(d.Prev, h.Known(i).Name) {
			h.t.Fatalf("%s: heads %v became %v by what follows %v", what, was, heads, d.Prev)
		}
	}
}

// TestDraftedIsNotDenied (15.4): a room that is made of drafts alone, of all kinds.
func TestDraftedIsNotDenied(t *testing.T) {
	h := empty(t)
	for i, e := range []api.Event{create(ann), joined(ann), gives(ann, 50, 0), rule(ann, "public"), joined(bob), joined(cat), message(cat), title(bob, "x"), member(ann, dan, "invite"), joined(dan), member(bob, cat, "leave"), member(ann, cat, "ban"), member(ann, cat, "leave"), of("x", "k", bob, `{}`), member(dan, dan, "leave")} {
		h.settles(fmt.Sprint("event ", i), h.drafts("event", e, 1+i%3))
		if len(h.Heads()) != 1 {
			t.Fatalf("%d heads", len(h.Heads()))
		}
	}
}

// TestDraftsOfOneTime (15.4): several drafted at once, of the same heads, are each not denied; there are the more heads.
func TestDraftsOfOneTime(t *testing.T) {
	h := forked(t)
	for _, most := range []int{1, 2, 4, 5} {
		var drafts []api.Event
		for i := range 4 {
			e := with(message(bob), func(e *api.Event) { e.Ts = int64(i) })
			drafts = append(drafts, h.drafts("at once", e, most))
		}
		was := len(h.Heads())
		h.settles("the first one", drafts[0])
		for _, d := range drafts[1:] {
			if _, denied := h.add(nameAt(h.Len()), d); denied {
				t.Fatalf("denied: %+v", d)
			}
		}
		if got, want := len(h.Heads()), was-len(drafts[0].Prev)+4; got != want {
			t.Errorf("most %d: %d heads, not %d", most, got, want)
		}
	}
}

// TestDraftedByChance (15.4): in rooms by chance whatever is drafted is not denied, and merges what it follows.
func TestDraftedByChance(t *testing.T) {
	r := rand.New(rand.NewSource(154))
	merged := 0
	for range 100 {
		h := chance(t, r, r.Intn(40))
		for range 20 {
			most := pick(r, 1, 1, 1, 2, 3, 5, api.MaxPrev)
			d, err := Draft(h.Room, with(chanceEvent(r), func(e *api.Event) { e.Ts = int64(r.Intn(9)) }), most)
			if err != api.OK {
				continue
			}
			h.settles("by chance", d)
			if len(d.Prev) > 1 {
				merged++
			}
			// And a branch more, so that there are heads again.
			if e := h.made(chanceEvent(r), chancePrev(r, h)...); r.Intn(3) > 0 {
				h.add(name(int(r.Uint64())), e)
			}
		}
	}
	if merged < 150 {
		t.Error("too few that merged:", merged)
	}
}

// wide tells a room of so many heads, all behind 5, of some depths.
func wide(t *testing.T, heads int) *house {
	t.Helper()
	h := begun(t)
	r := rand.New(rand.NewSource(int64(heads)))
	for i := range heads {
		at := h.puts(name(int(r.Uint64())), message(pick(r, ann, bob, cat)), 5)
		for range i % 3 {
			at = h.put(message(bob), at)
		}
	}
	if len(h.Heads()) != heads {
		t.Fatalf("%d heads", len(h.Heads()))
	}
	return h
}

// TestDummiesMerge (15.4): c heads become T at most within (c - T) / (most - 1) dummies, rounded up.
func TestDummiesMerge(t *testing.T) {
	for _, c := range []int{1, 2, 3, 5, 19, 20, 21, 22, 39, 40, 50} {
		for _, most := range []int{2, 3, 4, 7, 19, api.MaxPrev} {
			h := wide(t, c)
			for n := 0; n < c; n++ {
				// Within so many dummies there are T heads at most: so it is for each T at once.
				heads := len(h.Heads())
				for left := 1; left <= c; left++ {
					if enough := (c - left + most - 2) / (most - 1); n >= enough && heads > left {
						t.Fatalf("%d heads, most %d: after %d dummies %d, not %d", c, most, n, heads, left)
					}
				}
				if !Due(h.Room, 1) {
					break
				}
				d, err := Dummy(h.Room, here, ann, int64(n), most)
				if err != api.OK {
					t.Fatalf("error %d", err)
				}
				h.settles("dummy", d)
				if len(h.Heads()) >= heads {
					t.Fatalf("%d heads stayed %d", heads, len(h.Heads()))
				}
			}
		}
	}
}

// TestDummiesTillKept (15.4): as a server has it: while more heads are there than are kept.
func TestDummiesTillKept(t *testing.T) {
	for _, c := range []struct{ heads, keep, most, dummies int }{
		{50, 1, api.MaxPrev, 3}, {50, 10, api.MaxPrev, 3}, {50, 12, api.MaxPrev, 2}, {50, 31, api.MaxPrev, 1}, {50, 50, api.MaxPrev, 0}, {50, 49, 2, 1}, {50, 40, 2, 10}, {7, 1, 3, 3}, {8, 1, 3, 4}, {3, 5, 2, 0},
	} {
		h := wide(t, c.heads)
		n := 0
		for ; Due(h.Room, c.keep) && n < c.heads; n++ {
			d, err := Dummy(h.Room, here, bob, 0, c.most)
			if err != api.OK {
				t.Fatalf("error %d", err)
			}
			h.settles("dummy", d)
		}
		if n != c.dummies {
			t.Errorf("%+v: %d dummies", c, n)
		}
	}
}

// TestDummiesThatMergeNothing (15.4): where each follows one head alone, there are as many heads as ever.
func TestDummiesThatMergeNothing(t *testing.T) {
	h := wide(t, 4)
	for range 6 {
		d, err := Dummy(h.Room, here, ann, 0, 1)
		if err != api.OK || len(d.Prev) != 1 {
			t.Fatalf("error %d, %v", err, d.Prev)
		}
		h.settles("dummy", d)
		if len(h.Heads()) != 4 {
			t.Fatalf("%d heads", len(h.Heads()))
		}
	}
}

// TestDummiesKeepTheState (15.4): once all heads are merged, the room's state is what it was.
func TestDummiesKeepTheState(t *testing.T) {
	h := forked(t)
	was := h.State()
	d, err := Dummy(h.Room, here, bob, 1, 5)
	if err != api.OK {
		t.Fatalf("error %d", err)
	}
	h.settles("dummy", d)
	equal(t, "state", h.State(), was)
	is(t, "heads", h.Heads(), "11")
}
