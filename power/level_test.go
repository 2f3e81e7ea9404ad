package power

import (
	"math/rand"
	"testing"

	"agora/api"
)

// TestStart (10.2): what holds without a content; the creator alone has a level.
func TestStart(t *testing.T) {
	for _, creator := range []string{"@ann:s1", "@a:s", "", "nobody", "\xff"} {
		want := api.Levels{Ban: 50, Kick: 50, Redact: 50, ByUser: []api.Named{{Name: creator, Level: 100}}}
		got := Start(creator)
		if !same(got, want) {
			t.Errorf("%q: %+v", creator, got)
		}
		if User(got, creator) != 100 || User(got, creator+"x") != 0 || Type(got, api.TName, true) != 0 || Type(got, api.TMessage, false) != 0 {
			t.Errorf("%q: %d, %d", creator, User(got, creator), User(got, creator+"x"))
		}
	}
}

// TestStartIsNotParse (10.2): a content that tells nothing asks for more of events of a state.
func TestStartIsNotParse(t *testing.T) {
	l, err := Parse(alone("users", alone("@ann:s1", number(100))))
	if err != api.OK || !same(l, with(Start("@ann:s1"), setNumber("state_default", 50))) {
		t.Errorf("%+v, error %d", l, err)
	}
}

// TestExample (10.3): the chapter's own.
func TestExample(t *testing.T) {
	l, err := Parse(value(t, `{"users":{"@a:s":100}}`))
	if err != api.OK || User(l, "@a:s") != 100 || User(l, "@b:s") != 0 || User(l, "") != 0 {
		t.Errorf("%+v, error %d", l, err)
	}
}

// TestUser (10.3): the level that is named, or that of all users.
func TestUser(t *testing.T) {
	some := api.Levels{Users: 5, ByUser: []api.Named{{Name: "@b:s", Level: 7}, {Name: "@a:s", Level: -3}, {Name: "@b:s", Level: 9}, {Name: "", Level: 4}, {Name: "@a:s", Level: 8}, {Name: "a", Level: 50}}}
	for _, c := range []struct {
		what string
		l    api.Levels
		user string
		want int64
	}{
		{"no levels", api.Levels{}, "@a:s", 0},
		{"all users'", api.Levels{Users: 5}, "@a:s", 5},
		{"all users', below zero", api.Levels{Users: -5}, "@a:s", -5},
		{"the least", api.Levels{Users: low}, "@a:s", low},
		{"the greatest", api.Levels{Users: high}, "@a:s", high},
		{"none of the other numbers", api.Levels{Ban: 1, Kick: 2, Invite: 3, Redact: 4, State: 5, Events: 6, ByType: []api.Named{{Name: "@a:s", Level: 7}}}, "@a:s", 0},
		{"named, the first one", some, "@a:s", -3},
		{"named, the first one", some, "@b:s", 7},
		{"named, no user", some, "a", 50},
		{"the empty name", some, "", 4},
		{"not named", some, "@c:s", 5},
		{"a beginning", some, "@a:", 5},
		{"longer", some, "@a:s ", 5},
		{"a nought that is named", api.Levels{Users: 5, ByUser: []api.Named{{Name: "@a:s"}}}, "@a:s", 0},
		{"the empty name, not named", api.Levels{Users: 5, ByUser: []api.Named{{Name: "@a:s", Level: 1}}}, "", 5},
		{"the least that is named", api.Levels{ByUser: []api.Named{{Name: "@a:s", Level: low}}}, "@a:s", low},
	} {
		if got := User(c.l, c.user); got != c.want {
			t.Errorf("%s: %q has %d, not %d", c.what, c.user, got, c.want)
		}
	}
}

// TestType (10.3): the level that is named, of a state or not; else that of a state, or of others.
func TestType(t *testing.T) {
	some := api.Levels{State: 50, Events: 5, ByType: []api.Named{{Name: "b", Level: 7}, {Name: "a", Level: -3}, {Name: "b", Level: 9}, {Name: "", Level: 4}, {Name: "a", Level: 8}}}
	for _, c := range []struct {
		what          string
		l             api.Levels
		kind          string
		state, others int64
	}{
		{"no levels", api.Levels{}, "a", 0, 0},
		{"not named", api.Levels{State: 1, Events: 2}, "a", 1, 2},
		{"not named, of bounds", api.Levels{State: low, Events: high}, "a", low, high},
		{"none of the other numbers", api.Levels{Ban: 1, Kick: 2, Invite: 3, Redact: 4, Users: 7, ByUser: []api.Named{{Name: "a", Level: 7}}}, "a", 0, 0},
		{"named, the first one", some, "a", -3, -3},
		{"named, the first one", some, "b", 7, 7},
		{"the empty name", some, "", 4, 4},
		{"not named beside others", some, "c", 50, 5},
		{"longer", some, "aa", 50, 5},
		{"a nought that is named", api.Levels{State: 50, Events: 5, ByType: []api.Named{{Name: "a"}}}, "a", 0, 0},
		{"the empty name, not named", api.Levels{State: 50, Events: 5, ByType: []api.Named{{Name: "a", Level: 1}}}, "", 50, 5},
		{"power levels", api.Levels{State: 50}, api.TPower, 50, 0},
	} {
		if state, others := Type(c.l, c.kind, true), Type(c.l, c.kind, false); state != c.state || others != c.others {
			t.Errorf("%s: %q asks for %d and %d, not %d and %d", c.what, c.kind, state, others, c.state, c.others)
		}
	}
}

// TestAskedAgainstModel (10.3): chance levels, names that stand twice among them.
func TestAskedAgainstModel(t *testing.T) {
	r := rand.New(rand.NewSource(103))
	for range 3000 {
		l := chance(r)
		for _, user := range append(people(), "", "@f:s") {
			if User(l, user) != modelUser(l, user) {
				t.Fatalf("%+v: %s has %d", l, user, User(l, user))
			}
		}
		for _, kind := range append(kinds(), "", "c") {
			state, others := l.State, l.Events
			if n, ok := levelOf(l.ByType, kind); ok {
				state, others = n, n
			}
			if Type(l, kind, true) != state || Type(l, kind, false) != others {
				t.Fatalf("%+v: %s asks for %d and %d", l, kind, Type(l, kind, true), Type(l, kind, false))
			}
		}
	}
}
