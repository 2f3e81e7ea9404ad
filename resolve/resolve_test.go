package resolve

import (
	"math/rand"
	"slices"
	"testing"

	"agora/api"
)

// comes holds Resolve to a state; all are told by their places.
func comes(t *testing.T, what string, p api.Past, of, want string) {
	t.Helper()
	resolved(t, what+": "+of, p, states(t, p, of), state(t, p, want))
}

// TestResolveExample (13.4): the chapter's own: the ban stays, and the name goes, whenever they were made, and by whomever of the two with a level.
func TestResolveExample(t *testing.T) {
	comes(t, "by ann", roomOf(), "0 1 2 3 4 6|0 1 2 3 4 5 7", "0 1 2 3 4 6")
	for _, banner := range []string{ann, bob} {
		for _, times := range [][2]int64{{20, 30}, {30, 20}, {20, 20}} {
			b := begun()
			by := 1
			if banner == bob {
				by = 4
			}
			ban := b.add(member(banner, cat, "ban"), times[0], name(1), 0, 2, by, 5)
			set := b.add(title(cat, "x"), times[1], name(2), 0, 2, 5)
			p := b.past
			one, other := stateOf(p, 0, 1, 2, 3, 4, ban), stateOf(p, 0, 1, 2, 3, 4, 5, set)
			resolved(t, "by "+banner, p, [][]api.Spot{one, other}, one)
			resolved(t, "by "+banner, p, [][]api.Spot{other, one}, one)
		}
	}
}

// TestResolveOfRoom (13.4): branches of a room, one state, two and several.
func TestResolveOfRoom(t *testing.T) {
	p := roomOf()
	for _, c := range []struct{ what, states, want string }{
		{"one state", "0 1 2 3 4 5 7", "0 1 2 3 4 5 7"},
		{"the same twice", "0 1 2 3 4 5 7|0 1 2 3 4 5 7", "0 1 2 3 4 5 7"},
		{"a state that hangs in the air", "8", "8"},
		{"the same twice", "7|7", "7"},
		{"one more", "0 1 2 3 4|0 1 2 3 4 5", "0 1 2 3 4 5"},
		{"two names: the later one stays", "0 1 2 3 4 5 7|0 1 2 3 4 5 8", "0 1 2 3 4 5 8"},
		{"levels, and older ones", "0 1 2 3 4 5|0 1 9 3 4 5", "0 1 9 3 4 5"},
		{"two rules: that of the lower level is heard later", "0 1 2 3 4 5|0 1 2 11 4 5", "0 1 2 11 4 5"},
		{"a ban, levels, a name", "0 1 2 3 4 6|0 1 9 3 4 5|0 1 2 3 4 5 7", "0 1 9 3 4 6"},
		{"a ban, a rule, a name of bob's", "0 1 2 3 4 6|0 1 2 11 4 5|0 1 2 3 4 5 8", "0 1 2 11 4 6 8"},
		{"all of them", "0 1 2 3 4 6|0 1 9 3 4 5|0 1 2 3 4 5 7|0 1 2 3 4 5 8|0 1 2 11 4 5", "0 1 9 11 4 6 8"},
		// An empty state leaves nothing settled: all is heard again.
		{"an empty one", "0 1 2 3 4 5|", "0 1 2 3 4 5"},
		{"an empty one first", "|0 1 2 3 4 5 7", "0 1 2 3 4 5 7"},
		{"an empty one among others", "0 1 2 3 4 6||0 1 2 3 4 5 7", "0 1 2 3 4 6"},
		{"empty ones", "||", ""},
		{"an empty one alone", "", ""},
		// What one leans on, and the other one does not, is heard, too.
		{"a name, and all that it leans on", "8|", "0 1 2 3 4 8"},
		{"a join, and all that it leans on", "5|", "0 1 2 3 5"},
		{"the first join", "1|", "0 1"},
		{"no state has what both lean on", "7|8", "4 5 8"},
	} {
		comes(t, c.what, p, c.states, c.want)
	}
}

// TestResolveOfNothing (13.4): of no state: nothing, OK.
func TestResolveOfNothing(t *testing.T) {
	for _, p := range []api.Past{{}, roomOf()} {
		resolved(t, "no states", p, nil, nil)
		resolved(t, "no states", p, [][]api.Spot{}, nil)
		resolved(t, "an empty state", p, [][]api.Spot{nil}, nil)
		resolved(t, "empty states", p, [][]api.Spot{nil, {}, nil}, nil)
	}
}

// TestPowerFirst (13.4): what may change who may do what is heard ahead of all else, whenever it was made; and of that what comes of more power.
func TestPowerFirst(t *testing.T) {
	b := begun()
	early := b.add(title(bob, "early"), 10, name(1), 0, 2, 4)
	kick := b.add(member(ann, bob, "leave"), 99, name(2), 0, 2, 1, 4)
	p := b.past
	one, other := stateOf(p, 0, 1, 2, 3, 4, 5, early), stateOf(p, 0, 1, 2, 3, kick, 5)
	resolved(t, "a kick, and an earlier name", p, [][]api.Spot{one, other}, other)
	// Ann takes bob's level, and bob bans cat, ahead of that.
	b = begun()
	ban := b.add(member(bob, cat, "ban"), 10, name(1), 0, 2, 4, 5)
	takes := b.add(gives(ann, 0, 0), 99, name(2), 0, 2, 1)
	p = b.past
	one, other = stateOf(p, 0, 1, 2, 3, 4, ban), stateOf(p, 0, 1, takes, 3, 4, 5)
	resolved(t, "a ban by one whose level is taken", p, [][]api.Spot{one, other}, other)
	// Of two changes that both may make, the one by less power is heard last, and stays.
	b = begun()
	bobs := b.add(rule(bob, "invite"), 10, name(1), 0, 2, 4)
	anns := b.add(rule(ann, "x"), 99, name(2), 0, 2, 1)
	p = b.past
	one, other = stateOf(p, 0, 1, 2, bobs, 4, 5), stateOf(p, 0, 1, 2, anns, 4, 5)
	resolved(t, "two rules", p, [][]api.Spot{one, other}, one)
	// The same levels: by time.
	b = begun()
	later := b.add(rule(ann, "x"), 99, name(1), 0, 2, 1)
	sooner := b.add(rule(ann, "y"), 98, name(2), 0, 2, 1)
	p = b.past
	one, other = stateOf(p, 0, 1, 2, later, 4, 5), stateOf(p, 0, 1, 2, sooner, 4, 5)
	resolved(t, "two rules of one level", p, [][]api.Spot{one, other}, one)
}

// TestPowersLeanOn (13.4): what an event of power leans on is heard with these, ahead of the rest, if it is to be heard at all.
func TestPowersLeanOn(t *testing.T) {
	b := &builder{}
	b.put(create(ann))
	b.put(join(ann), 0)
	b.put(gives(ann, 50, 0), 0, 1)
	b.put(rule(ann, "public"), 0, 2, 1)
	joins := b.add(join(bob), 50, name(1), 0, 2, 3)
	power := b.add(rule(bob, "public"), 60, name(2), 0, 2, joins)
	leaves := b.add(member(bob, bob, "leave"), 40, name(3), 0, 2, joins)
	p := b.past
	// By time alone bob would leave, and then join.
	one, other := stateOf(p, 0, 1, 2, joins, power), stateOf(p, 0, 1, 2, 3, leaves)
	resolved(t, "bob leaves", p, [][]api.Spot{one, other}, stateOf(p, 0, 1, 2, power, leaves))
	// A denied one is not heard, but what it leans on is, with those of power.
	p = copyOf(p)
	p.Denied[power] = true
	resolved(t, "bob leaves, by a denied rule", p, [][]api.Spot{one, other}, other)
	// Where no event of power leans on the join, it is so.
	one = stateOf(p, 0, 1, 2, 3, joins)
	resolved(t, "bob joins", p, [][]api.Spot{one, other}, one)
	// By a way over an event that is not to be heard, too.
	between := b.put(of("x", "", ann, `{}`), 0, 1, joins)
	far := b.add(rule(bob, "public"), 60, name(4), 0, 2, between)
	note := b.put(of("note", "", ann, `{}`), 0, 1, between)
	p = b.past
	one, other = stateOf(p, 0, 1, 2, joins, far), stateOf(p, 0, 1, 2, 3, leaves, note)
	is(t, "what is to be heard", Full(p, [][]api.Spot{one, other}), "3 4 6 8 9")
	resolved(t, "over another one", p, [][]api.Spot{one, other}, stateOf(p, 0, 1, 2, far, leaves, note))
}

// TestRestByLine (13.4): the rest is heard by the line of the levels that came out: what leans on older ones first, whenever it was made.
func TestRestByLine(t *testing.T) {
	b := begun()
	next := b.add(gives(ann, 50, 20), 20, name(1), 0, 2, 1)
	old := b.add(title(bob, "old"), 99, name(2), 0, 2, 4)
	young := b.add(title(bob, "young"), 30, name(3), 0, next, 4)
	p := b.past
	one, other := stateOf(p, 0, 1, 2, 3, 4, 5, old), stateOf(p, 0, 1, next, 3, 4, 5, young)
	resolved(t, "levels that came out", p, [][]api.Spot{one, other}, other)
	// With levels that are settled.
	one = stateOf(p, 0, 1, next, 3, 4, 5, old)
	resolved(t, "levels that are settled", p, [][]api.Spot{one, other}, other)
	// Those on which the young one leans are heard, and count for the line, though the older ones are settled.
	one, other = stateOf(p, 0, 1, 2, 3, 4, 5, old), stateOf(p, 0, 1, 2, 3, 4, 5, young)
	resolved(t, "older levels that are settled", p, [][]api.Spot{one, other}, other)
}

// TestRestWithoutLevels (13.4): without levels the rest is heard by time; levels of another key are none.
func TestRestWithoutLevels(t *testing.T) {
	b := &builder{}
	b.put(create(ann))
	b.put(join(ann), 0)
	x := b.add(title(ann, "x"), 5, name(1), 0, 1)
	y := b.add(title(ann, "y"), 4, name(2), 0, 1)
	z := b.add(title(ann, "z"), 5, name(3), 0, 1)
	p := b.past
	comes(t, "the later one", p, "0 1 2|0 1 3", "0 1 2")
	comes(t, "at one time: the greater name", p, "0 1 2|0 1 4", "0 1 4")
	comes(t, "three", p, "0 1 2|0 1 3|0 1 4", "0 1 4")
	p.Names[x], p.Names[z] = p.Names[z], p.Names[x]
	comes(t, "the names changed", p, "0 1 2|0 1 4", "0 1 2")
	// Levels of another key, on which the later name leans: if they were counted, it would be heard last.
	b = &builder{}
	b.put(create(ann))
	b.put(join(ann), 0)
	none := b.put(of(api.TPower, "key", ann, `{}`), 0, 1)
	x = b.add(title(ann, "x"), 4, name(1), 0, 1, none)
	y = b.add(title(ann, "y"), 5, name(2), 0, 1)
	p = b.past
	one, other := stateOf(p, 0, 1, none, x), stateOf(p, 0, 1, none, y)
	resolved(t, "levels of another key", p, [][]api.Spot{one, other}, other)
	// The first place is no levels, either.
	b = &builder{}
	x = b.add(title(ann, "x"), 4, name(1))
	first := b.put(create(ann))
	in := b.put(join(ann), first)
	y = b.add(title(ann, "y"), 5, name(2), first, in)
	p = b.past
	one, other = stateOf(p, first, in, x), stateOf(p, first, in, y)
	resolved(t, "the first place", p, [][]api.Spot{one, other}, other)
}

// TestLevelsOfLine (13.4): the line is that of the levels with the empty key behind the first walk, not of those that were settled ahead of it, nor of a state's own.
func TestLevelsOfLine(t *testing.T) {
	b := &builder{}
	b.put(create(ann))
	b.put(join(ann), 0)
	first := b.add(gives(ann, 50, 0), 2, name(1), 0, 1)
	second := b.add(gives(ann, 50, 1), 3, name(2), 0, first, 1)
	third := b.add(gives(ann, 50, 2), 4, name(3), 0, second, 1)
	x := b.add(title(ann, "x"), 50, name(4), 0, second, 1)
	y := b.add(title(ann, "y"), 40, name(5), 0, third, 1)
	z := b.add(title(ann, "z"), 60, name(6), 0, first, 1)
	p := b.past
	resolved(t, "by the third", p, [][]api.Spot{stateOf(p, 0, 1, first, z), stateOf(p, 0, 1, second, x), stateOf(p, 0, 1, third, y)}, stateOf(p, 0, 1, third, y))
	resolved(t, "by the second", p, [][]api.Spot{stateOf(p, 0, 1, first, z), stateOf(p, 0, 1, second, x)}, stateOf(p, 0, 1, second, x))
	resolved(t, "the first and the third", p, [][]api.Spot{stateOf(p, 0, 1, third, z), stateOf(p, 0, 1, first, y)}, stateOf(p, 0, 1, third, y))
}

// TestSettledStays (13.4): a settled spot stands in the answer, also where something else of its type and key was heard in its place, by which others were judged.
func TestSettledStays(t *testing.T) {
	b := &builder{}
	b.put(create(ann))
	b.put(join(ann), 0)
	old := b.put(gives(ann, 50, 0), 0, 1)
	free := b.put(rule(ann, "public"), 0, 1)
	joins := b.put(join(bob), 0, free)
	firm := b.put(gives(ann, 0, 0), 0, 1)
	bobs := b.put(rule(bob, "invite"), 0, old, joins)
	p := b.past
	one, other := stateOf(p, 0, 1, firm, joins, bobs), stateOf(p, 0, 1, firm, joins, free)
	both := [][]api.Spot{one, other}
	is(t, "what is to be heard", Full(p, both), "2 3 4 6")
	// By the settled levels bob may not do it; by those that it leans on he may.
	equal(t, "by the settled ones", Walk(p, []int{free, bobs}, Settled(both)), other)
	equal(t, "by the old ones", Walk(p, []int{old, free, bobs}, Settled(both)), stateOf(p, 0, 1, old, joins, bobs))
	resolved(t, "the settled levels stay", p, both, one)
}

// TestResolveByDenied (13.4): what was denied is not heard.
func TestResolveByDenied(t *testing.T) {
	p := roomOf()
	p.Denied[6] = true
	comes(t, "a denied ban", p, "0 1 2 3 4 6|0 1 2 3 4 5 7", "0 1 2 3 4 5 7")
	comes(t, "a denied ban that is settled", p, "0 1 2 3 4 6|0 1 2 3 4 6 7", "0 1 2 3 4 6")
	comes(t, "a denied ban alone", p, "0 1 2 3 4 6", "0 1 2 3 4 6")
	p = roomOf()
	p.Denied[9] = true
	comes(t, "denied levels", p, "0 1 2 3 4 5|0 1 9 3 4 5", "0 1 2 3 4 5")
	p.Denied[2] = true
	comes(t, "both denied", p, "0 1 2 3 4 5|0 1 9 3 4 5", "0 1 3 4 5")
}

// TestResolveOfWhatIsNotRight (13.4): ErrArg, and nothing.
func TestResolveOfWhatIsNotRight(t *testing.T) {
	p := roomOf()
	good, other := stateOf(p, 0, 1, 2, 3, 4, 8), stateOf(p, 0, 1, 2, 3, 5)
	resolved(t, "right", p, [][]api.Spot{good, good}, good)
	for what, q := range wrongPasts() {
		refused(t, what, q, [][]api.Spot{good, other})
		refused(t, what+", one place", q, [][]api.Spot{stateOf(p, 0)})
		refused(t, what+", an empty state", q, [][]api.Spot{nil})
		refused(t, what+", no states", q, nil)
	}
	for what, s := range wrongStates() {
		for _, l := range [][][]api.Spot{{s}, {s, s}, {s, good}, {good, s}, {good, other, s}, {s, nil}, {nil, s}, {good, s, other}} {
			refused(t, what, p, l)
		}
	}
}

// TestResolveByChance (13.4): as the chapter's words gone through one by one.
func TestResolveByChance(t *testing.T) {
	r := rand.New(rand.NewSource(134))
	merged, lost := 0, 0
	for range 3000 {
		p, branches := chanceRoom(r, r.Intn(25))
		l := chanceStates(r, p, branches)
		got, err := Resolve(p, l)
		if err != api.OK {
			t.Fatalf("error %d: %+v of %+v", err, l, p)
		}
		equal(t, "resolved", got, modelResolve(p, l))
		if t.Failed() {
			t.Fatalf("%+v of %+v", l, p)
		}
		if !slices.ContainsFunc(l, func(s []api.Spot) bool { return slices.Equal(s, got) }) {
			merged++
		}
		if len(Contested(l)) > 0 && len(got) < len(l[0]) {
			lost++
		}
	}
	if merged < 500 || lost < 100 {
		t.Error("too few:", merged, lost)
	}
}
