package resolve

import (
	"math"
	"math/rand"
	"slices"
	"testing"

	"agora/api"
	"agora/auth"
)

// walked holds Walk to a state; all are told by their places, and must be right, so that nothing is nothing for its own reason.
func walked(t *testing.T, what string, p api.Past, l, from, want string) {
	t.Helper()
	if from := state(t, p, from); !right(p, from) {
		t.Fatalf("%s: %+v is not right", what, from)
	}
	equal(t, what+": "+l+" from "+from, Walk(p, row(t, l), state(t, p, from)), state(t, p, want))
}

// TestWalkOfRoom (13.3): place by place, in this order.
func TestWalkOfRoom(t *testing.T) {
	p := roomOf()
	for _, c := range []struct{ what, l, from, want string }{
		{"nothing", "", "", ""},
		{"what was there stays", "", "0 1 2 3 4 5", "0 1 2 3 4 5"},
		{"from nothing on", "0 1 2 3 4 5", "", "0 1 2 3 4 5"},
		{"one more", "6", "0 1 2 3 4", "0 1 2 3 4 6"},
		{"in the place of another one", "6", "0 1 2 3 4 5", "0 1 2 3 4 6"},
		{"the last one stays", "7 8", "0 1 2 3 4 5", "0 1 2 3 4 5 8"},
		{"the last one stays", "8 7", "0 1 2 3 4 5", "0 1 2 3 4 5 7"},
		{"the last one stays", "8 7", "0 1 2 3 4 5 8", "0 1 2 3 4 5 7"},
		{"banned ahead of the name", "6 7", "0 1 2 3 4 5", "0 1 2 3 4 6"},
		{"banned behind the name", "7 6", "0 1 2 3 4 5", "0 1 2 3 4 6 7"},
		{"banned ahead of the join", "6 5", "0 1 2 3 4", "0 1 2 3 4 6"},
		{"all", "0 1 2 3 4 5 6 7 8 9 10 11", "", "0 1 9 11 4 6 8"},
		{"all the other way round", "11 10 9 8 7 6 5 4 3 2 1 0", "", "0 1 2 3 6 7"},
		{"a rule ahead of a join", "11 5", "0 1 2 3 4", "0 1 2 11 4"},
		{"a rule behind a join", "5 11", "0 1 2 3 4", "0 1 2 11 4 5"},
		{"a message is not of a state", "10", "0 1 2 3 4", "0 1 2 3 4"},
		{"a message among others", "10 8 10 5", "0 1 2 3 4", "0 1 2 3 4 5 8"},
	} {
		walked(t, c.what, p, c.l, c.from, c.want)
	}
}

// TestWalkOfAnyPlaces (13.3): places that are none are passed by, and those that are told twice are heard twice.
func TestWalkOfAnyPlaces(t *testing.T) {
	p := roomOf()
	walked(t, "none", p, "-1 12 8 -2 99 5", "0 1 2 3 4", "0 1 2 3 4 5 8")
	walked(t, "none alone", p, "-1", "0 1", "0 1")
	walked(t, "the one behind the last", p, "12", "0 1", "0 1")
	equal(t, "any number", Walk(p, []int{math.MinInt, 8, math.MaxInt, math.MinInt + 1}, stateOf(p, 0, 1, 2, 4)), stateOf(p, 0, 1, 2, 4, 8))
	equal(t, "none of nothing", Walk(api.Past{}, []int{0, -1, 1}, nil), nil)
	walked(t, "twice", p, "7 8 7", "0 1 2 3 4 5", "0 1 2 3 4 5 7")
	walked(t, "one behind the other", p, "8 8 8", "0 1 2 3 4 5", "0 1 2 3 4 5 8")
	walked(t, "allowed the first time", p, "5 6 5", "0 1 2 3 4", "0 1 2 3 4 6")
	// Bob's name does not lean on his join here, so that it is allowed the second time.
	p.Auth[8] = []int{0, 2}
	walked(t, "allowed the second time", p, "8 4 8", "0 1 2 3", "0 1 2 3 4 8")
	walked(t, "not told again", p, "8 4", "0 1 2 3", "0 1 2 3 4")
}

// TestWalkByDenied (13.3): an event that was denied is not heard, and does not count in Auth; a spot of the state at hand counts whatever it is.
func TestWalkByDenied(t *testing.T) {
	p := roomOf()
	p.Denied[6] = true
	walked(t, "not heard", p, "5 6 7", "0 1 2 3 4", "0 1 2 3 4 5 7")
	walked(t, "in the state", p, "7", "0 1 2 3 4 6", "0 1 2 3 4 6")
	p = roomOf()
	p.Denied[4] = true
	walked(t, "not leant on", p, "8", "0 1 2 3", "0 1 2 3")
	walked(t, "in the state", p, "8", "0 1 2 3 4", "0 1 2 3 4 8")
	walked(t, "neither heard nor leant on", p, "4 8", "0 1 2 3", "0 1 2 3")
	p = roomOf()
	p.Denied[0] = true
	walked(t, "no create event", p, "8", "1 2 4", "1 2 4")
	walked(t, "a denied create event", p, "8", "0 1 2 4", "0 1 2 4 8")
	walked(t, "nothing begins", p, "0 1 2 3 4 5 6 7 8 9 10 11", "", "")
}

// TestWalkByState (13.3): what is not of a state is not heard, and does not count in Auth.
func TestWalkByState(t *testing.T) {
	p := roomOf()
	p.Events[7].IsState = false
	walked(t, "a name", p, "7", "0 1 2 3 4 5", "0 1 2 3 4 5")
	p = roomOf()
	p.Events[4].IsState = false
	walked(t, "a membership in Auth", p, "8", "0 1 2 3", "0 1 2 3")
	p.Events[2].IsState = false
	walked(t, "levels in Auth", p, "11", "0 1 3", "0 1 3")
	p = roomOf()
	p.Events[2].IsState = false
	walked(t, "no levels: bob has 0, as names need", p, "8", "0 1 3", "0 1 3 8")
}

// memberships is a past that has several memberships of bob's, and a name of bob's that leans on these.
//
//	0 created by ann, 1 ann joins, 2 bob joins, 3 bob is banned, 4 bob leaves, 5 bob joins again, 6 bob sets a name
func memberships(leans ...int) api.Past {
	b := &builder{}
	b.put(create(ann))
	b.put(join(ann), 0)
	b.put(join(bob), 0)
	b.put(member(ann, bob, "ban"), 0)
	b.put(member(bob, bob, "leave"), 0)
	b.put(join(bob), 0)
	b.put(title(bob, "x"), leans...)
	return b.past
}

// TestWalkByFirst (13.3): a type and key that the state has not, and that stands in Auth twice: the first one counts that is not denied, and of a state.
func TestWalkByFirst(t *testing.T) {
	for _, c := range []struct {
		what    string
		leans   []int
		denied  []int
		plain   []int
		allowed bool
	}{
		{"none", []int{0}, nil, nil, false},
		{"a join", []int{0, 2}, nil, nil, true},
		{"ahead of the create event", []int{2, 0}, nil, nil, true},
		{"a ban", []int{0, 3}, nil, nil, false},
		{"a join, then a ban", []int{0, 2, 3}, nil, nil, true},
		{"a ban, then a join, by the row", []int{0, 3, 2}, nil, nil, false},
		{"a ban, then a join, by place", []int{0, 3, 5}, nil, nil, false},
		{"a join, then a ban, by the row", []int{0, 5, 3}, nil, nil, true},
		{"ann's do not count", []int{0, 1, 2, 3}, nil, nil, true},
		{"ann's alone", []int{0, 1}, nil, nil, false},
		{"a denied ban, then a join", []int{0, 3, 2}, []int{3}, nil, true},
		{"a denied join, then a ban", []int{0, 2, 3}, []int{2}, nil, false},
		{"a denied join, then another one", []int{0, 2, 5}, []int{2}, nil, true},
		{"two denied ones", []int{0, 2, 5, 4}, []int{2, 5}, nil, false},
		{"a ban that is not of a state, then a join", []int{0, 3, 2}, nil, []int{3}, true},
		{"a join that is not of a state, then a ban", []int{0, 2, 3}, nil, []int{2}, false},
		{"the same twice", []int{0, 2, 2, 0}, nil, nil, true},
		{"no create event", []int{2}, nil, nil, false},
		{"a denied create event", []int{0, 2}, []int{0}, nil, false},
	} {
		p := memberships(c.leans...)
		for _, i := range c.denied {
			p.Denied[i] = true
		}
		for _, i := range c.plain {
			p.Events[i].IsState = false
		}
		want := ""
		if c.allowed {
			want = "6"
		}
		walked(t, c.what, p, "6", "", want)
		// The state at hand counts ahead of all that.
		if !slices.Contains(c.plain, 5) {
			walked(t, c.what+", a join at hand", p, "6", "0 5", "0 5 6")
		}
		if !slices.Contains(c.plain, 3) {
			walked(t, c.what+", a ban at hand", p, "6", "0 3", "0 3")
		}
		walked(t, c.what+", a leave at hand", p, "6", "0 4", "0 4")
	}
}

// TestWalkWants (13.3): each type and key that an event hangs on, of the state at hand, and where that has none, of Auth.
func TestWalkWants(t *testing.T) {
	p := roomOf()
	// Of the state at hand.
	walked(t, "the rule at hand", p, "5", "0 1 2 3", "0 1 2 3 5")
	walked(t, "another rule at hand", p, "5", "0 1 2 11", "0 1 2 11")
	walked(t, "the levels at hand", p, "11", "0 2 4", "0 2 4 11")
	walked(t, "the target's membership at hand", p, "6", "0 1 2 5", "0 1 2 6")
	// Of Auth.
	walked(t, "all of them", p, "5", "", "5")
	walked(t, "all of them", p, "8", "", "8")
	walked(t, "all of them", p, "6", "", "6")
	p.Auth[5] = []int{0, 2}
	walked(t, "no rule", p, "5", "", "")
	p.Events[4] = rule(ann, "invite")
	p.Auth[5] = []int{0, 2, 4, 3}
	walked(t, "another rule", p, "5", "", "")
	walked(t, "the rule at hand, another one in Auth", p, "5", "3", "3 5")
	p.Auth[5] = []int{0, 2, 3}
	walked(t, "another rule at hand, the rule in Auth", p, "5", "4", "4")
	p = roomOf()
	p.Auth[5] = []int{3, 2}
	walked(t, "no create event", p, "5", "", "")
	walked(t, "a create event at hand", p, "5", "0", "0 5")
	p.Auth[11] = []int{0, 4}
	walked(t, "no levels: all have what a state needs", p, "11", "", "11")
	walked(t, "levels at hand", p, "11", "2", "2 11")
	p.Events[2] = gives(ann, 49, 0)
	walked(t, "too low at hand", p, "11", "2", "2")
	p.Auth[11] = []int{0, 4, 2}
	walked(t, "too low in Auth", p, "11", "", "")
	walked(t, "too low in Auth, enough at hand", p, "11", "9", "9 11")
	p.Auth[11] = []int{0, 9, 4}
	walked(t, "enough in Auth, too low at hand", p, "11", "2", "2")
	// A kick of one who is banned needs more, if the target's ban is known.
	b := begun()
	levels := of(api.TPower, "", ann, `{"ban":60,"kick":50,"users":{"@ann:s1":100,"@bob:s2":50}}`)
	b.past.Events[2].Content = levels.Content
	ban := b.put(member(ann, cat, "ban"), 0, 2, 1, 5)
	kick := b.put(member(bob, cat, "leave"), 0, 2, 4, 5)
	q := b.past
	from := stateOf(q, 0, 2, 4)
	equal(t, "a kick", Walk(q, []int{kick}, from), stateOf(q, 0, 2, 4, kick))
	equal(t, "a kick behind a ban", Walk(q, []int{ban, kick}, from), stateOf(q, 0, 2, 4, ban))
	q.Auth[kick] = []int{0, 2, 4, ban}
	equal(t, "a ban in Auth", Walk(q, []int{kick}, from), from)
}

// TestWalkByName (13.3): what an event hangs on is known by its name: the creator's join follows that alone.
func TestWalkByName(t *testing.T) {
	p := roomOf()
	walked(t, "the create event's name", p, "1", "0", "0 1")
	walked(t, "the create event's name, by Auth", p, "1", "", "1")
	p.Names[0] = name(77)
	walked(t, "another name", p, "1", "0", "0")
	walked(t, "another name, by Auth", p, "1", "", "")
	p.Events[1].Prev = []string{name(77)}
	walked(t, "that name", p, "1", "0", "0 1")
	p.Events[1].Prev = []string{name(77), name(1000)}
	walked(t, "and another one", p, "1", "0", "0")
}

// TestWalkOfCreations (13.3): a create event hangs on nothing, and stands in the place of another one.
func TestWalkOfCreations(t *testing.T) {
	b := begun()
	again := b.put(create(ann))
	elsewhere := create(ann)
	elsewhere.Room = "!other:s1"
	other := b.put(elsewhere)
	wrong := b.put(create(bob))
	p := b.past
	from := stateOf(p, 0, 1, 2)
	equal(t, "again", Walk(p, []int{again}, from), stateOf(p, again, 1, 2))
	equal(t, "from nothing", Walk(p, []int{again}, nil), stateOf(p, again))
	equal(t, "of another server", Walk(p, []int{wrong}, from), from)
	equal(t, "of another room", Walk(p, []int{other, 3}, from), stateOf(p, other, 1, 2))
	equal(t, "of another room, then of this one", Walk(p, []int{other, again, 3}, from), stateOf(p, again, 1, 2, 3))
}

// TestWalkRefuses (13.3): an event that Judge refuses changes nothing, nor one that is not well shaped.
func TestWalkRefuses(t *testing.T) {
	b := begun()
	l := []int{
		b.put(rule(cat, "public"), 0, 2, 5),
		b.put(member(cat, bob, "ban"), 0, 2, 5, 4),
		b.put(member(bob, ann, "leave"), 0, 2, 4, 1),
		b.put(gives(bob, 100, 0), 0, 2, 4),
		b.put(of(api.TPower, "", ann, `{"ban":"x"}`), 0, 2, 1),
		b.put(of("x", ann, bob, `{}`), 0, 2, 4),
		b.put(of(api.TMember, bob, bob, `{}`), 0, 2, 4),
		b.put(title("@dan:s4", "x"), 0, 2),
	}
	for _, spoil := range []func(e *api.Event){
		func(e *api.Event) { e.Content.Kind = api.JList },
		func(e *api.Event) { e.Room = "r" },
		func(e *api.Event) { e.Ts = -1 },
		func(e *api.Event) { e.Depth = -1 },
		func(e *api.Event) { e.Prev = []string{"x"} },
		func(e *api.Event) { e.Hash = "x" },
	} {
		at := b.put(title(ann, "x"), 0, 2, 1)
		spoil(&b.past.Events[at])
		l = append(l, at)
	}
	p := b.past
	from := stateOf(p, 0, 1, 2, 3, 4, 5)
	for _, i := range l {
		equal(t, p.Events[i].Type, Walk(p, []int{i}, from), from)
	}
	equal(t, "all", Walk(p, l, from), from)
	fine := b.put(title(ann, "x"), 0, 2, 1)
	p = b.past
	equal(t, "one that is allowed", Walk(p, append(l, fine), from), stateOf(p, 0, 1, 2, 3, 4, 5, fine))
	// An event that is only too long is heard like any other.
	long := make([]byte, api.MaxBytes)
	for i := range long {
		long[i] = 'x'
	}
	p.Events[fine].Content = value(`{"name":"` + string(long[:10000]) + `"}`)
	more := p.Events[fine].Content
	p.Events[fine].Content = api.Json{Kind: api.JMap, Keys: []string{"a", "b"}, List: []api.Json{more, more}}
	if auth.Judge(p.Events[fine], nil) == api.ErrShape {
		t.Fatal("it is not well shaped")
	}
	equal(t, "a long one", Walk(p, []int{fine}, from), stateOf(p, 0, 1, 2, 3, 4, 5, fine))
}

// TestWalkInOrder (13.3): the state in the end is in order, whatever the walk: types, then keys.
func TestWalkInOrder(t *testing.T) {
	b := &builder{}
	b.put(create(ann))
	b.put(join(ann), 0)
	var l []int
	for _, kind := range []string{"z", "m.room.name", "a", "m.room.membe", "aa", "0", "m.room.member_", "_"} {
		for _, key := range []string{"b", "", "aa", "B", "\u00e9", "a", "0"} {
			l = append(l, b.put(of(kind, key, ann, `{}`), 0, 1))
		}
	}
	p := b.past
	from := stateOf(p, 0, 1)
	want := stateOf(p, append([]int{0, 1}, l...)...)
	r := rand.New(rand.NewSource(1331))
	for range 20 {
		equal(t, "in order", Walk(p, l, from), want)
		r.Shuffle(len(l), func(i, j int) { l[i], l[j] = l[j], l[i] })
	}
	for i := 1; i < len(want); i++ {
		if a, b := want[i-1], want[i]; a.Type > b.Type || a.Type == b.Type && a.Key >= b.Key {
			t.Fatalf("%+v ahead of %+v", a, b)
		}
	}
}

// TestWalkOfWhatIsNotRight (13.3): nothing.
func TestWalkOfWhatIsNotRight(t *testing.T) {
	p := roomOf()
	l := row(t, "0 1 2 3 4 5 6 7 8")
	if len(Walk(p, l, stateOf(p, 0, 1))) == 0 {
		t.Fatal("nothing of what is right")
	}
	for what, q := range wrongPasts() {
		equal(t, what, Walk(q, l, stateOf(p, 0, 1)), nil)
		equal(t, what+", from nothing", Walk(q, l, nil), nil)
		equal(t, what+", nothing to walk", Walk(q, nil, stateOf(p, 0)), nil)
	}
	for what, s := range wrongStates() {
		equal(t, what, Walk(p, l, s), nil)
		equal(t, what+", nothing to walk", Walk(p, nil, s), nil)
	}
}

// TestWalkByChance (13.3): as the chapter's words gone through one by one.
func TestWalkByChance(t *testing.T) {
	r := rand.New(rand.NewSource(133))
	changed, kept := 0, 0
	for range 1000 {
		p, branches := chanceRoom(r, r.Intn(25))
		l := chanceRow(r, len(p.Events))
		for _, s := range chanceStates(r, p, branches) {
			got := Walk(p, l, s)
			equal(t, "walk", got, modelWalk(p, l, s))
			if t.Failed() {
				t.Fatalf("%v from %+v in %+v", l, s, p)
			}
			if slices.Equal(got, s) {
				kept++
			} else {
				changed++
			}
		}
	}
	if changed < 1000 || kept < 100 {
		t.Error("too few:", changed, kept)
	}
}
