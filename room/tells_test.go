package room

import (
	"fmt"
	"math/rand"
	"slices"
	"testing"

	"agora/api"
	"agora/ranks"
)

// nothingAt holds that a room has nothing at a place.
func nothingAt(t *testing.T, r *Room, i int) {
	t.Helper()
	if k := r.Known(i); fmt.Sprintf("%+v", k) != fmt.Sprintf("%+v", api.Known{}) || r.Denied(i) || len(r.Ahead(i)) > 0 || len(r.Behind(i)) > 0 {
		t.Errorf("place %d: %+v, %t, %+v, %+v", i, k, r.Denied(i), r.Ahead(i), r.Behind(i))
	}
}

// nothingOf holds that a room's state has nothing of a type and a key.
func nothingOf(t *testing.T, r *Room, kind, key string) {
	t.Helper()
	if k, ok := r.Event(kind, key); ok || fmt.Sprintf("%+v", k) != fmt.Sprintf("%+v", api.Known{}) {
		t.Errorf("%s, %q: %t, %+v", kind, key, ok, k)
	}
}

// TestNowhere (14.3): of what is no place nothing is told.
func TestNowhere(t *testing.T) {
	for _, h := range []*house{empty(t), begun(t), forked(t)} {
		for _, i := range nowhere(h.Len()) {
			nothingAt(t, h.Room, i)
		}
		for _, n := range []string{"", "x", "$", name(1), nameAt(h.Len()), nameAt(-1), "1000", nameAt(0) + " ", ann} {
			if at, ok := h.Place(n); at != 0 || ok {
				t.Errorf("%q: %d, %t", n, at, ok)
			}
		}
	}
}

// TestEmptyRoom (14.3): a room without events.
func TestEmptyRoom(t *testing.T) {
	h := empty(t)
	if h.Id() != here || h.Len() != 0 {
		t.Errorf("%s, %d", h.Id(), h.Len())
	}
	is(t, "heads", h.Heads(), "")
	equal(t, "state", h.State(), nil)
	equal(t, "residents", h.Residents(), nil)
	equal(t, "come", h.Come([]int{0, -1, 5}), nil)
	nothingOf(t, h.Room, api.TCreate, "")
	nothingOf(t, h.Room, "", "")
	if p := h.Past(); !ranks.Right(p) || len(p.Events) > 0 {
		t.Errorf("%+v", p)
	}
	held(t, h.Room, modelOf(t, h.Room))
}

// TestAheadAndBehind (14, 14.3): the state ahead of an event, and behind it, where it follows one.
func TestAheadAndBehind(t *testing.T) {
	h := begun(t)
	at := "0"
	h.stands("ahead of 0", h.Ahead(0), "")
	h.stands("behind 0", h.Behind(0), at)
	for i := 1; i < 6; i++ {
		h.stands(fmt.Sprint("ahead of ", i), h.Ahead(i), at)
		at += fmt.Sprint(" ", i)
		h.stands(fmt.Sprint("behind ", i), h.Behind(i), at)
	}
	equal(t, "in order", h.Behind(5), []api.Spot{
		{Type: api.TCreate, At: 0}, {Type: api.TRules, At: 3}, {Type: api.TMember, Key: ann, At: 1}, {Type: api.TMember, Key: bob, At: 4}, {Type: api.TMember, Key: cat, At: 5}, {Type: api.TPower, At: 2},
	})
	said := h.put(message(bob), 5)
	h.stands("ahead of a message", h.Ahead(said), at)
	h.stands("behind a message", h.Behind(said), at)
	// In the place of one of its type and key.
	next := h.put(gives(ann, 50, 20), said)
	h.stands("ahead of levels", h.Ahead(next), at)
	h.stands("behind levels", h.Behind(next), "0 1 7 3 4 5")
	left := h.put(member(cat, cat, "leave"), next)
	h.stands("behind who left", h.Behind(left), "0 1 7 3 4 8")
	// Of another key, or not of a state, it is beside the others.
	h.put(of(api.TPower, "k", ann, `{}`), left)
	h.stands("levels of another key", h.Behind(9), "0 1 7 3 4 8 9")
	h.put(plain(api.TName, ann, `{}`), 9)
	h.stands("a name that is of no state", h.Behind(10), "0 1 7 3 4 8 9")
	// What came first stays as it was.
	h.stands("behind 5, at last", h.Behind(5), at)
	h.stands("ahead of 4, at last", h.Ahead(4), "0 1 2 3")
}

// TestAheadOfSeveral (14, 14.3): the state ahead of what follows several is what comes of the states behind all of these.
func TestAheadOfSeveral(t *testing.T) {
	h := forked(t)
	for _, c := range []struct{ prev, want string }{
		{"6", "0 1 2 3 4 6"},
		{"10", "0 1 2 3 4 5"},
		{"6 7", "0 1 2 3 4 6"},
		{"6 10", "0 1 2 3 4 6"},
		{"7 8", "0 1 2 3 4 5 8"},
		{"7 10", "0 1 2 3 4 5 7"},
		{"6 8 9", "0 1 9 3 4 6 8"},
		{"6 7 8 9 10", "0 1 9 3 4 6 8"},
		{"5 10", "0 1 2 3 4 5"},
		{"0 9", "0 1 9 3 4 5"},
		{"2 5", "0 1 2 3 4 5"},
	} {
		at := h.put(message(ann), row(t, c.prev)...)
		h.stands("ahead of what follows "+c.prev, h.Ahead(at), c.want)
		h.stands("behind what follows "+c.prev, h.Behind(at), c.want)
	}
	// In whatever order it names them.
	e := with(h.draft(title(ann, "x"), 6, 8, 9), func(e *api.Event) { slices.Reverse(e.Prev); slices.Reverse(e.Auth) })
	at, denied := h.add(e)
	if denied {
		t.Error("denied")
	}
	h.stands("ahead", h.Ahead(at), "0 1 9 3 4 6 8")
	h.stands("behind", h.Behind(at), fmt.Sprint("0 1 9 3 4 6 ", at))
	p := h.Past()
	is(t, "prev", p.Prev[at], "6 8 9")
	is(t, "auth", p.Auth[at], "0 1 9")
	held(t, h.Room, modelOf(t, h.Room))
}

// TestAheadOfUnlikeRoots (14): a state without spots counts as one of several.
func TestAheadOfUnlikeRoots(t *testing.T) {
	h := begun(t)
	bad := h.bad(message(ann))
	h.stands("behind what follows nothing", h.Behind(bad), "")
	at := h.put(message(ann), 5, bad)
	h.stands("both", h.Ahead(at), "0 1 2 3 4 5")
	other := h.put(create(dan))
	h.stands("behind another creation", h.Behind(other), "8")
	is(t, "heads", h.Heads(), "7 8")
	held(t, h.Room, modelOf(t, h.Room))
}

// TestHeads (14.3): what is not denied, and no such event follows.
func TestHeads(t *testing.T) {
	h := begun(t)
	is(t, "one", h.Heads(), "5")
	for i := range 3 {
		h.put(message(bob), 5)
		is(t, "several", h.Heads(), "6 7 8"[:1+2*i])
	}
	// All that follows a head is denied: it stays one.
	for _, i := range []int{6, 7, 8, 6} {
		h.bad(with(h.draft(message(bob), i), func(e *api.Event) { e.Depth = 0 }))
		is(t, "denied", h.Heads(), "6 7 8")
	}
	h.put(message(ann), 7)
	is(t, "one of them is followed", h.Heads(), "6 8 13")
	h.put(message(ann), 5)
	is(t, "what is behind a head may get another one", h.Heads(), "6 8 13 14")
	h.put(message(ann), 13, 6)
	is(t, "two of them are followed", h.Heads(), "8 14 15")
	h.put(message(ann), 7)
	is(t, "one that was followed long ago", h.Heads(), "8 14 15 16")
	h.put(message(ann), 8, 14, 15, 16)
	is(t, "merged", h.Heads(), "17")
	held(t, h.Room, modelOf(t, h.Room))
	for i, text := range []string{"0", "1", "2", "3", "4", "5"} {
		begin := begun(t)
		short := empty(t)
		for j := range i + 1 {
			short.add(begin.Known(j).Event)
		}
		is(t, "as they come", short.Heads(), text)
	}
}

// TestCome (14.3): what comes of the states behind places, rising, each once; those that are none count as not there.
func TestCome(t *testing.T) {
	h := forked(t)
	for _, c := range []struct{ of, want string }{
		{"", ""},
		{"-1", ""},
		{"11 99 -5", ""},
		{"0", "0"},
		{"5", "0 1 2 3 4 5"},
		{"5 5 5", "0 1 2 3 4 5"},
		{"-1 5 11", "0 1 2 3 4 5"},
		{"6 7", "0 1 2 3 4 6"},
		{"7 6", "0 1 2 3 4 6"},
		{"7 6 7 -3 7 6", "0 1 2 3 4 6"},
		{"7 8", "0 1 2 3 4 5 8"},
		{"8 7", "0 1 2 3 4 5 8"},
		{"9 8 7 6", "0 1 9 3 4 6 8"},
		{"10 9", "0 1 9 3 4 5"},
		{"10 5", "0 1 2 3 4 5"},
		{"0 1 2 3 4 5 6 7 8 9 10", "0 1 9 3 4 6 8"},
		{"0 9", "0 1 9 3 4 5"},
	} {
		h.stands("come of "+c.of, h.Come(row(t, c.of)), c.want)
	}
	h.stands("places that are none", h.Come(append(nowhere(h.Len()), 7, 8)), "0 1 2 3 4 5 8")
	// A denied event has a state behind it, too.
	bad := h.bad(with(h.draft(title(ann, "x"), 9), func(e *api.Event) { e.Depth = 0 }))
	h.stands("of a denied one", h.Come([]int{bad}), "0 1 9 3 4 5")
	h.stands("of a denied one and another one", h.Come([]int{bad, 7}), "0 1 9 3 4 5 7")
}

// TestState (14, 14.3): what comes of the states behind the heads.
func TestState(t *testing.T) {
	h := begun(t)
	h.stands("one head", h.State(), "0 1 2 3 4 5")
	h = forked(t)
	h.stands("several", h.State(), "0 1 9 3 4 6 8")
	h.put(title(ann, "ann's"), 10)
	h.stands("one more", h.State(), "0 1 9 3 4 6 11")
	h.put(message(ann), 6, 7, 8, 9, 11)
	h.stands("merged", h.State(), "0 1 9 3 4 6 11")
	h.bad(with(h.draft(title(ann, "x"), 12), func(e *api.Event) { e.Depth = 0 }))
	h.stands("a denied one", h.State(), "0 1 9 3 4 6 11")
}

// TestEvent (14.3): the event of the room's state of a type and key, and whether there is one.
func TestEvent(t *testing.T) {
	h := forked(t)
	for _, one := range h.stateOf("0 1 9 3 4 6 8") {
		k, ok := h.Event(one.Type, one.Key)
		if !ok || fmt.Sprintf("%+v", k) != fmt.Sprintf("%+v", h.Known(one.At)) {
			t.Errorf("%s, %q: %t, %+v", one.Type, one.Key, ok, k)
		}
	}
	for _, c := range [][2]string{
		{"", ""}, {api.TMessage, ""}, {api.TCreate, "x"}, {api.TCreate, ann}, {api.TMember, ""}, {api.TMember, dan}, {api.TMember, "@ann:s"}, {api.TName, "x"}, {"x", ""},
		{api.TCreate + " ", ""}, {"m.room.creat", ""}, {api.TPower, "\x00"}, {"", ann}, {"zz", "zz"},
	} {
		nothingOf(t, h.Room, c[0], c[1])
	}
	// Once there is one, it is told; what is denied is not.
	h.put(of("x", "k", ann, `{}`), 10)
	if k, ok := h.Event("x", "k"); !ok || k.Name != nameAt(11) {
		t.Errorf("%t, %s", ok, k.Name)
	}
	h.bad(with(h.draft(of("x", "j", ann, `{}`), 11), func(e *api.Event) { e.Depth = 0 }))
	nothingOf(t, h.Room, "x", "j")
}

// TestResidents (14.3): the servers at home in users who are joined, rising, each once.
func TestResidents(t *testing.T) {
	h := begun(t)
	equal(t, "three users", h.Residents(), []string{"s1", "s2", "s3"})
	h.put(joined(dan), 5)
	equal(t, "two of one server", h.Residents(), []string{"s1", "s2", "s3"})
	h.put(member(bob, bob, "leave"), 6)
	equal(t, "one left", h.Residents(), []string{"s1", "s3"})
	h.put(member(ann, cat, "ban"), 7)
	equal(t, "one was banned", h.Residents(), []string{"s1"})
	h.put(member(ann, bob, "invite"), 8)
	equal(t, "one is invited", h.Residents(), []string{"s1"})
	h.put(joined("@x:s0"), 9)
	h.put(joined("@a:s9"), 10)
	h.put(joined("@b:s10"), 11)
	equal(t, "in order", h.Residents(), []string{"s0", "s1", "s10", "s9"})
	h.put(member(ann, ann, "leave"), 12)
	equal(t, "another one of the server is joined", h.Residents(), []string{"s0", "s1", "s10", "s9"})
	h.put(member(dan, dan, "leave"), 13)
	equal(t, "none of the server", h.Residents(), []string{"s0", "s10", "s9"})
	held(t, h.Room, modelOf(t, h.Room))
	begin := empty(t)
	begin.put(create(ann))
	equal(t, "nobody is joined", begin.Residents(), nil)
	// A join that a branch takes back.
	h = forked(t)
	equal(t, "of several heads", h.Residents(), []string{"s1", "s2"})
}

// TestResidentsOfOtherTypes (14.3): what is no membership makes nobody a resident, whatever it says, and whoever's key it has.
func TestResidentsOfOtherTypes(t *testing.T) {
	h := begun(t)
	h.put(of("x", bob, bob, `{"membership":"join"}`), 5)
	h.put(member(bob, bob, "leave"), 6)
	h.put(member(cat, cat, "leave"), 7)
	h.put(of("x", "", ann, `{"membership":"join"}`), 8)
	h.put(of("x", "!r:s9", ann, `{"membership":"join"}`), 9)
	equal(t, "ann alone", h.Residents(), []string{"s1"})
	held(t, h.Room, modelOf(t, h.Room))
}

// TestPast (14.3): all, as chapter 12's: right, as long as the room, with the places in the place of names.
func TestPast(t *testing.T) {
	h := forked(t)
	h.bad(with(h.draft(message(bob), 6, 9), func(e *api.Event) { e.Depth = 0 }))
	p := h.Past()
	if !ranks.Right(p) || len(p.Events) != h.Len() {
		t.Fatalf("%+v", p)
	}
	for i := range h.Len() {
		k := h.Known(i)
		if p.Names[i] != k.Name || fmt.Sprintf("%+v", p.Events[i]) != fmt.Sprintf("%+v", k.Event) || p.Denied[i] != h.Denied(i) {
			t.Errorf("place %d: %s, %+v, %t", i, p.Names[i], p.Events[i], p.Denied[i])
		}
		equal(t, "prev", h.named(p.Prev[i]...), k.Event.Prev)
	}
	is(t, "prev", p.Prev[11], "6 9")
	is(t, "auth", p.Auth[7], "0 2 5")
	if !p.Denied[11] || slices.Contains(p.Denied[:11], true) {
		t.Errorf("denied: %v", p.Denied)
	}
}

// TestTellsByChance (14.3): as the chapter's words gone through one by one, for any rows of places.
func TestTellsByChance(t *testing.T) {
	r := rand.New(rand.NewSource(143))
	several := 0
	for range 100 {
		h, m := chance(t, r, r.Intn(30))
		for range 10 {
			var l []int
			for range r.Intn(8) {
				l = append(l, r.Intn(h.Len()+4)-2)
			}
			equal(t, fmt.Sprint("come of ", l), h.Come(l), m.come(l))
		}
		if len(m.heads()) > 2 {
			several++
		}
		if t.Failed() {
			t.FailNow()
		}
	}
	if several < 30 {
		t.Error("too few of several heads:", several)
	}
}
