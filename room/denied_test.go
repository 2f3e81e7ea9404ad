package room

import (
	"fmt"
	"math"
	"math/rand"
	"slices"
	"testing"

	"agora/api"
)

// TestHeight (14.2): 0 of none; else 1 more than the greatest, not below 0, MaxHeight at most.
func TestHeight(t *testing.T) {
	const top = api.MaxHeight
	for _, c := range []struct {
		l    []int64
		want int64
	}{
		{nil, 0},
		{[]int64{}, 0},
		{[]int64{0}, 1},
		{[]int64{1}, 2},
		{[]int64{0, 0}, 1},
		{[]int64{3, 1, 2}, 4},
		{[]int64{1, 3, 2}, 4},
		{[]int64{1, 2, 3}, 4},
		{[]int64{-1}, 0},
		{[]int64{-2}, 0},
		{[]int64{-7, -5}, 0},
		{[]int64{-1, 0}, 1},
		{[]int64{-9, 4}, 5},
		{[]int64{math.MinInt64}, 0},
		{[]int64{math.MinInt64, 0}, 1},
		{[]int64{top - 2}, top - 1},
		{[]int64{top - 1}, top},
		{[]int64{top}, top},
		{[]int64{top + 1}, top},
		{[]int64{0, top, 1}, top},
		{[]int64{math.MaxInt64}, top},
		{[]int64{math.MaxInt64 - 1, math.MinInt64}, top},
		{[]int64{1 << 32}, 1<<32 + 1},
		{[]int64{math.MaxInt32}, math.MaxInt32 + 1},
	} {
		if got := Height(c.l); got != c.want {
			t.Errorf("%v: %d, not %d", c.l, got, c.want)
		}
	}
	r := rand.New(rand.NewSource(1420))
	for range 1000 {
		var l []int64
		for range r.Intn(5) {
			l = append(l, pick(r, r.Int63(), -r.Int63(), r.Int63n(10), top-r.Int63n(3)))
		}
		if got := Height(l); got != modelHeight(l) {
			t.Errorf("%v: %d, not %d", l, got, modelHeight(l))
		}
	}
}

// deniedBy holds that an event is denied, and by which of the reasons alone.
func (h *house) deniedBy(what string, e api.Event, reasons ...string) {
	h.t.Helper()
	m := modelOf(h.t, h.Room)
	at := h.bad(e)
	if _, err := m.add(h.Known(at)); err != api.OK || !slices.Equal(m.why[at], reasons) {
		h.t.Errorf("%s: error %d, by %v, not by %v", what, err, m.why[at], reasons)
	}
	held(h.t, h.Room, m)
}

// TestNothingWrong (14.2): what nothing is wrong with is not denied, of whatever kind it is.
func TestNothingWrong(t *testing.T) {
	for _, e := range []api.Event{
		message(ann), message(bob), message(cat), title(ann, "x"), title(cat, "x"), rule(bob, "invite"), gives(ann, 50, 20), gives(bob, 50, 50),
		member(ann, bob, "leave"), member(bob, cat, "ban"), member(cat, cat, "leave"), member(cat, dan, "invite"), joined(dan), joined(bob),
		of("x", "", ann, `{}`), of("x", "k", bob, `{}`), of("x", bob, bob, `{}`), plain(api.TRedact, cat, `{"redacts":"x"}`), plain(api.TDummy, cat, `{}`),
	} {
		h := begun(t)
		h.put(e, 5)
		held(t, h.Room, modelOf(t, h.Room))
	}
}

// TestDeniedByDepth (14.2): a depth that is not Height of the depths of what it follows, of one or of several.
func TestDeniedByDepth(t *testing.T) {
	for _, depth := range []int64{0, 1, 4, 5, 7, 8, 60, api.MaxHeight} {
		h := begun(t)
		h.deniedBy(fmt.Sprint("depth ", depth), with(h.draft(message(bob), 5), func(e *api.Event) { e.Depth = depth }), byDepth)
	}
	h := begun(t)
	h.put(message(bob), 5)
	h.put(message(bob), 6)
	h.put(message(ann), 2)
	for _, depth := range []int64{3, 4, 7, 9} {
		h.deniedBy(fmt.Sprint("of three, ", depth), with(h.draft(message(bob), 2, 7, 8), func(e *api.Event) { e.Depth = depth }), byDepth)
	}
	at := h.put(message(bob), 2, 7, 8)
	if h.Known(at).Event.Depth != 8 {
		t.Error("the depth is not 8")
	}
	e := create(ann)
	e.Depth = 1
	h.deniedBy("a creation", e, byDepth)
	// Whatever depth what it follows says that it has, denied or not.
	far := h.bad(with(h.draft(message(bob), at), func(e *api.Event) { e.Depth = api.MaxHeight }))
	h.deniedBy("behind the greatest depth", with(h.draft(message(bob), far), func(e *api.Event) { e.Depth = 0 }), byDepth)
	last := h.put(message(bob), far)
	next := h.put(message(bob), last)
	if h.Known(next).Event.Depth != api.MaxHeight {
		t.Error("the depth is not MaxHeight")
	}
}

// leaning tells a message by bob that follows 5 and leans on these.
func (h *house) leaning(places ...int) api.Event {
	return with(h.draft(message(bob), 5), func(e *api.Event) { e.Auth = h.named(places...) })
}

// named tells the names of places, whatever they are.
func (h *house) named(places ...int) []string {
	var l []string
	for _, i := range places {
		l = append(l, h.Known(i).Name)
	}
	return l
}

// TestLeansOnDenied (14.2): one that it leans on is denied, whichever it is.
func TestLeansOnDenied(t *testing.T) {
	h := begun(t)
	late := func(e *api.Event) { e.Depth = 77 }
	created := h.bad(with(create(ann), late))
	leveled := h.bad(with(h.draft(gives(ann, 50, 1), 5), late))
	in := h.bad(with(h.draft(joined(bob), 5), late))
	if _, denied := h.add(h.leaning(0, 2, 4)); denied {
		t.Fatal("denied")
	}
	h.deniedBy("a creation", h.leaning(created, 2, 4), byDenied)
	h.deniedBy("levels", h.leaning(0, leveled, 4), byDenied)
	h.deniedBy("a membership", h.leaning(0, 2, in), byDenied)
	h.deniedBy("all", h.leaning(created, leveled, in), byDenied)
	h.deniedBy("one beside the right ones", h.leaning(0, 2, 4, in), byDenied, byTwice)
	// One that was denied by what it leans on makes others denied that lean on it.
	in = h.bad(with(h.draft(joined(bob), 5), func(e *api.Event) { e.Auth = h.named(0, leveled, 3, 4) }))
	h.deniedBy("by what another one leans on", h.leaning(0, 2, in), byDenied)
}

// TestLeansOnNoState (14.2): one that it leans on is not of a state, of a type and key that are wanted all the same.
func TestLeansOnNoState(t *testing.T) {
	h := begun(t)
	levels := h.put(plain(api.TPower, ann, `{}`), 5)
	h.deniedBy("levels that are of no state", h.leaning(0, levels, 4), byNoState)
	h.deniedBy("beside levels", h.leaning(0, 2, 4, levels), byNoState, byTwice)
	said := h.put(message(bob), 5)
	h.deniedBy("a message", h.leaning(0, 2, 4, said), byNoState, byUnwanted)
}

// TestLeansOnUnwanted (14.2): one that it leans on is of a type and key that Wanted does not name.
func TestLeansOnUnwanted(t *testing.T) {
	h := begun(t)
	named := h.put(title(ann, "x"), 5)
	keyed := h.put(of(api.TPower, "k", ann, `{}`), 5)
	invited := h.put(member(ann, dan, "invite"), 5)
	for what, i := range map[string]int{"the rule": 3, "another user": 5, "the creator": 1, "a name": named, "levels of another key": keyed, "who is invited": invited} {
		h.deniedBy("a message: "+what, h.leaning(0, 2, 4, i), byUnwanted)
		h.deniedBy("a message, first: "+what, h.leaning(i, 0, 2, 4), byUnwanted)
	}
	h.deniedBy("in the place of levels", h.leaning(0, keyed, 4), byUnwanted)
	// What is wanted hangs on the event: the rule is of a join and an invitation, the target of a membership.
	leaves := h.draft(member(bob, bob, "leave"), 5)
	leaves.Auth = names(0, 2, 4, 3)
	h.deniedBy("the rule, of one who leaves", leaves, byUnwanted)
	joins := h.draft(joined(dan), 5)
	joins.Auth = names(0, 2, 3, 5)
	h.deniedBy("another user, of one who joins", joins, byUnwanted)
	kicks := h.draft(member(ann, cat, "leave"), 5)
	kicks.Auth = names(0, 2, 1, 5, 4)
	h.deniedBy("a third user, of a kick", kicks, byUnwanted)
	other := create(ann)
	other.Auth = names(0)
	h.deniedBy("a creation", other, byUnwanted, byLeant, byAhead)
}

// TestLeansOnTwo (14.2): one that it leans on is of a type and key that another one is of, too.
func TestLeansOnTwo(t *testing.T) {
	h := begun(t)
	next := h.put(gives(ann, 50, 20), 5)
	again := h.put(joined(bob), 5)
	other := h.put(create(ann))
	h.deniedBy("two levels", h.leaning(0, 2, next, 4), byTwice)
	h.deniedBy("two levels, the later first", h.leaning(next, 0, 4, 2), byTwice)
	h.deniedBy("two memberships", h.leaning(0, 2, again, 4), byTwice)
	h.deniedBy("two creations", h.leaning(0, 2, 4, other), byTwice)
	h.deniedBy("all of them", h.leaning(0, 2, 4, other, next, again), byTwice)
	// Each of them alone will do.
	for _, l := range [][]int{{0, next, 4}, {0, 2, again}, {other, 2, 4}, {other, next, again}} {
		if _, denied := h.add(h.leaning(l...)); denied {
			t.Errorf("%v is denied", l)
		}
	}
	held(t, h.Room, modelOf(t, h.Room))
}

// TestLeansOnNoCreate (14.2): it is not of TCreate, and none that it leans on is of TCreate. (The rules do not allow that either.)
func TestLeansOnNoCreate(t *testing.T) {
	h := begun(t)
	h.deniedBy("a message", h.leaning(2, 4), byNoCreate, byLeant)
	h.deniedBy("leaning on nothing", h.leaning(), byNoCreate, byLeant)
	joins := h.draft(joined(dan), 5)
	joins.Auth = names(2, 3)
	h.deniedBy("a join", joins, byNoCreate, byLeant)
	if _, denied := h.add(create(dan)); denied {
		t.Error("a creation that leans on nothing is denied")
	}
}

// TestFollowsNothing (14.2): it is not of TCreate, and follows nothing. (The rules do not allow that either, by no state.)
func TestFollowsNothing(t *testing.T) {
	h := begun(t)
	for _, e := range []api.Event{message(ann), title(ann, "x"), joined(ann), gives(ann, 0, 0)} {
		e.Auth = names(0, 1)
		if e.Type == api.TMember {
			e.Auth = names(0, 1, 3)
		}
		h.deniedBy(e.Type, e, byNoPrev, byAhead)
	}
	begin := empty(t)
	begin.deniedBy("the first one", message(ann), byNoCreate, byNoPrev, byLeant, byAhead)
	begin.deniedBy("a join", joined(ann), byNoCreate, byNoPrev, byLeant, byAhead)
	is(t, "heads", begin.Heads(), "")
	begin.stands("state", begin.State(), "")
	// A room may begin behind that.
	if at, denied := begin.add(create(ann)); at != 2 || denied {
		t.Errorf("%d, denied %t", at, denied)
	}
	is(t, "heads", begin.Heads(), "2")
}

// TestDeniedByLeant (14.2): Judge refuses it by what it leans on, and by nothing else.
func TestDeniedByLeant(t *testing.T) {
	h := begun(t)
	h.deniedBy("without the sender's membership", h.leaning(0, 2), byLeant)
	bans := h.draft(member(bob, cat, "ban"), 5)
	bans.Auth = names(0, 4, 5)
	h.deniedBy("without the levels by which bob may", bans, byLeant)
	joins := h.draft(joined(dan), 5)
	joins.Auth = names(0, 2)
	h.deniedBy("without the rule", joins, byLeant)
	// What it leans on may be older than what stands in the state.
	leaves := h.put(member(bob, bob, "leave"), 5)
	back := h.put(joined(bob), leaves)
	e := h.draft(message(bob), back)
	e.Auth = names(0, 2, leaves)
	h.deniedBy("the membership ahead of the last one", e, byLeant)
	lifts := h.put(gives(ann, 50, 50), back)
	e = h.draft(rule(cat, "invite"), lifts)
	e.Auth = names(0, 2, 5)
	h.deniedBy("the levels ahead of the last ones", e, byLeant)
	h.put(rule(cat, "invite"), lifts)
}

// TestDeniedByAhead (14.2): Judge refuses it by the state ahead, and by nothing else.
func TestDeniedByAhead(t *testing.T) {
	h := begun(t)
	ban := h.put(member(ann, cat, "ban"), 5)
	e := h.draft(title(cat, "x"), ban)
	e.Auth = names(0, 2, 5)
	h.deniedBy("who is banned", e, byAhead)
	takes := h.put(gives(ann, 0, 0), 5)
	e = h.draft(rule(bob, "invite"), takes)
	e.Auth = names(0, 2, 4)
	h.deniedBy("whose level is taken", e, byAhead)
	closes := h.put(rule(ann, "invite"), 5)
	e = h.draft(joined(dan), closes)
	e.Auth = names(0, 2, 3)
	h.deniedBy("who is let in no more", e, byAhead)
	// In branches that do not have it, it is not denied; where these come together with one that does, it is.
	said := h.put(title(cat, "x"), 5)
	h.put(title(cat, "y"), said)
	e = h.draft(title(cat, "y"), said)
	both := h.draft(title(cat, "y"), ban, said)
	both.Auth = e.Auth
	h.deniedBy("who is banned in one of two branches", both, byAhead)
	// Ahead of the event that made it so, it is not.
	h.put(title(cat, "z"), 5)
}

// TestCreatorJoins (14.2): the creator joins behind the create event alone, which is asked of both what it leans on and the state.
func TestCreatorJoins(t *testing.T) {
	h := empty(t)
	h.put(create(ann))
	h.deniedBy("another one", with(h.draft(joined(bob), 0)), byLeant, byAhead)
	h.put(joined(ann), 0)
	other := h.put(create(ann))
	// By the create event of another name she is not the first one there, and there is no rule by which she may join.
	e := h.draft(joined(ann), 0)
	e.Auth = h.named(other)
	h.deniedBy("leaning on another creation", e, byLeant)
	h.put(joined(ann), other)
}

// TestBehindDenied (14.2, 14): an event that follows a denied one is judged by the state that the denied one left as it was.
func TestBehindDenied(t *testing.T) {
	h := begun(t)
	bad := h.bad(with(h.draft(title(bob, "bad"), 5), func(e *api.Event) { e.Depth = 40 }))
	h.stands("ahead", h.Ahead(bad), "0 1 2 3 4 5")
	h.stands("behind", h.Behind(bad), "0 1 2 3 4 5")
	is(t, "heads", h.Heads(), "5")
	good := h.put(title(bob, "good"), bad)
	if h.Known(good).Event.Depth != 41 {
		t.Error("the depth is not 41")
	}
	h.stands("ahead", h.Ahead(good), "0 1 2 3 4 5")
	h.stands("behind", h.Behind(good), "0 1 2 3 4 5 7")
	// What only the denied one follows stays a head.
	is(t, "heads", h.Heads(), "5 7")
	last := h.put(message(ann), 5, bad, good)
	is(t, "heads", h.Heads(), "8")
	h.stands("ahead", h.Ahead(last), "0 1 2 3 4 5 7")
	held(t, h.Room, modelOf(t, h.Room))
}

// TestDeniedByChance (14.2): as the chapter's words gone through one by one, each of which says something often enough, and alone, where it can.
func TestDeniedByChance(t *testing.T) {
	r := rand.New(rand.NewSource(142))
	counts, alone, good := map[string]int{}, map[string]int{}, 0
	for range 500 {
		h, m := chance(t, r, r.Intn(30))
		held(t, h.Room, m)
		for _, why := range m.why[6:] {
			for _, reason := range why {
				counts[reason]++
			}
			switch len(why) {
			case 0:
				good++
			case 1:
				alone[why[0]]++
			}
		}
	}
	if good < 1000 {
		t.Error("too few that are not denied:", good)
	}
	for _, reason := range []string{byDepth, byDenied, byNoState, byUnwanted, byTwice, byNoCreate, byNoPrev, byLeant, byAhead} {
		least := 10
		if reason == byNoCreate || reason == byNoPrev {
			// The rules deny these, too.
			least = 0
		}
		if counts[reason] < 10 || alone[reason] < least {
			t.Errorf("%s: %d times, %d alone", reason, counts[reason], alone[reason])
		}
	}
}
