package auth

import (
	"fmt"
	"testing"

	"agora/api"
)

// sent are events of all kinds but memberships and creations.
func sent(sender string) []api.Event {
	var l []api.Event
	for _, kind := range []string{api.TMessage, api.TName, api.TRedact, api.TDummy, api.TRules, api.TPower, "x"} {
		l = append(l, plain(kind, sender, `{}`), of(kind, "", sender, `{}`), of(kind, "x", sender, `{}`), of(kind, sender, sender, `{}`))
	}
	return l
}

// TestSenderJoined (11.2, rule 4): who is not joined sends nothing, whatever their level.
func TestSenderJoined(t *testing.T) {
	for _, m := range memberships() {
		for _, e := range sent(bob) {
			either(t, m, e, opened(is(bob, m)), m == "join")
			either(t, m, e, opened(is(bob, m), levels(`{"users":{"`+bob+`":100}}`)), m == "join")
			either(t, m, e, opened(is(bob, m), rule("public"), is(ann, "join")), m == "join")
		}
		for _, e := range sent(ann) {
			either(t, m+" of the creator", e, opened(is(ann, m)), m == "join")
		}
	}
	for _, e := range sent(ann) {
		denied(t, "nobody's membership is told", e, opened())
		denied(t, "another one's is", e, opened(is(bob, "join"), of(api.TMember, "", ann, `{"membership":"join"}`)))
		denied(t, "one that is no text", e, opened(of(api.TMember, ann, ann, `{"membership":["join"]}`)))
		denied(t, "one of another type", e, opened(of(api.TName, ann, ann, `{"membership":"join"}`)))
	}
}

// TestLevelOfType (11.2, rule 5): one below, at and above what a type asks for, of a state and not.
func TestLevelOfType(t *testing.T) {
	for s := int64(19); s <= 41; s++ {
		for _, c := range []struct {
			e     api.Event
			needs int64
		}{
			{message(bob), 20},
			{plain(api.TName, bob, `{}`), 30},
			{of(api.TMessage, "", bob, `{}`), 40},
			{of(api.TName, "", bob, `{}`), 30},
			{of(api.TName, "x", bob, `{}`), 30},
			{of(api.TName, bob, bob, `{}`), 30},
			{of(api.TRules, "", bob, `{}`), 40},
			{of("x", "", bob, `{}`), 40},
			{plain("x", bob, `{}`), 20},
			{of(api.TPower, "x", bob, `{}`), 35},
			{plain(api.TPower, bob, `{}`), 35},
		} {
			told := fmt.Sprintf(`{"events_default":20,"state_default":40,"events":{%q:30,%q:35},"users":{%q:%d}}`, api.TName, api.TPower, bob, s)
			either(t, fmt.Sprint(s), c.e, opened(is(bob, "join"), levels(told)), s >= c.needs)
			told = fmt.Sprintf(`{"events_default":20,"state_default":40,"events":{%q:30,%q:35},"users_default":%d}`, api.TName, api.TPower, s)
			either(t, fmt.Sprint("all users ", s), c.e, opened(is(bob, "join"), levels(told)), s >= c.needs)
		}
	}
	// What is asked for without levels is nothing; with levels that tell nothing it is the usual.
	allowed(t, "at the start", of(api.TName, "", bob, `{}`), opened(is(bob, "join")))
	denied(t, "the usual", of(api.TName, "", bob, `{}`), opened(is(bob, "join"), levels(`{}`)))
	allowed(t, "the usual", message(bob), opened(is(bob, "join"), levels(`{}`)))
	denied(t, "below all", message(bob), opened(is(bob, "join"), levels(`{"users_default":-1}`)))
}

// TestKeysOfUsers (11.2, rule 6): a key that begins with @ is the sender's own.
func TestKeysOfUsers(t *testing.T) {
	for _, told := range [][]api.Event{nil, {levels(`{"users":{"` + ann + `":100}}`)}} {
		state := opened(append(told, is(ann, "join"), is(bob, "join"))...)
		for _, kind := range []string{api.TName, api.TRules, api.TPower, api.TMessage, "x"} {
			for _, key := range []string{"@", "@x", "@ann:s", "@ann:s11", bob, cat, "@@ann:s1", "@ann:s1 "} {
				denied(t, "another one's", of(kind, key, ann, `{}`), state)
			}
			for _, key := range []string{ann, "", "x", "ann", "x@", " @x", "!r:s1", "#", "A", "ann:s1", "x" + bob} {
				if kind == api.TPower && key == "" {
					continue
				}
				allowed(t, "one's own, or nobody's", of(kind, key, ann, `{}`), state)
			}
			allowed(t, "not of a state", plain(kind, ann, `{}`), state)
		}
	}
}

// TestFirstLevels (11.2, rule 7): where the state tells none, any may be told by who is joined.
func TestFirstLevels(t *testing.T) {
	for _, sender := range []string{ann, bob} {
		for _, content := range []string{`{}`, `{"ban":1000}`, `{"users":{"` + ann + `":0,"` + bob + `":1000}}`, `{"users_default":-5,"events":{"x":1000}}`} {
			e := of(api.TPower, "", sender, content)
			allowed(t, content, e, opened(is(sender, "join")))
			denied(t, "not joined", e, opened(is(sender, "invite")))
			// Others, which are none of the room's levels, change nothing.
			allowed(t, content, e, opened(is(sender, "join"), of(api.TPower, "x", ann, `{"state_default":100}`), plain(api.TPower, ann, `{"state_default":100}`)))
		}
	}
}

// wrongLevels are contents that tell no levels.
func wrongLevels() []string {
	return []string{`{"ban":"50"}`, `{"kick":null}`, `{"users":[]}`, `{"users":{"bob":1}}`, `{"events":{"A":1}}`, `{"events":{"x":true}}`, `{"users_default":1073741825}`, `{"invite":-1073741825}`}
}

// TestNoLevels (11.2, rule 7): a content that tells none.
func TestNoLevels(t *testing.T) {
	for _, content := range wrongLevels() {
		e := of(api.TPower, "", ann, content)
		denied(t, content, e, opened(is(ann, "join")))
		denied(t, content, e, opened(is(ann, "join"), levels(`{"users":{"`+ann+`":100}}`)))
		// Elsewhere it is but a content.
		for _, other := range []api.Event{plain(api.TPower, ann, content), of(api.TPower, "x", ann, content), of(api.TPower, ann, ann, content), of(api.TName, "", ann, content)} {
			allowed(t, content, other, opened(is(ann, "join")))
		}
	}
}

// TestNextLevels (11.2, rule 7): levels in the place of others, as May says.
func TestNextLevels(t *testing.T) {
	const old = `{"users":{"@ann:s1":100,"@bob:s2":50,"@cat:s3":50},"ban":60,"state_default":50}`
	state := opened(is(ann, "join"), is(bob, "join"), levels(old))
	for _, c := range []struct {
		next     string
		ann, bob bool
	}{
		{old, true, true},
		{`{"users":{"@ann:s1":100,"@bob:s2":50,"@cat:s3":50},"ban":61,"state_default":50}`, true, false},
		{`{"users":{"@ann:s1":100,"@bob:s2":50,"@cat:s3":50},"ban":60,"kick":20,"state_default":50}`, true, true},
		{`{"users":{"@ann:s1":100,"@bob:s2":50,"@cat:s3":50},"ban":60,"kick":51,"state_default":50}`, true, false},
		{`{"users":{"@ann:s1":100,"@bob:s2":50,"@cat:s3":49},"ban":60,"state_default":50}`, true, false},
		{`{"users":{"@ann:s1":100,"@bob:s2":49,"@cat:s3":50},"ban":60,"state_default":50}`, true, true},
		{`{"users":{"@ann:s1":100,"@bob:s2":51,"@cat:s3":50},"ban":60,"state_default":50}`, true, false},
		{`{"users":{"@ann:s1":101,"@bob:s2":50,"@cat:s3":50},"ban":60,"state_default":50}`, false, false},
		{`{"users":{"@ann:s1":100,"@bob:s2":50,"@cat:s3":50,"@dan:s1":50},"ban":60,"state_default":50}`, true, true},
		{`{"users":{"@ann:s1":100,"@bob:s2":50,"@cat:s3":50},"ban":60,"state_default":50,"events":{"x":51}}`, true, false},
		{`{"x":1}`, true, false},
	} {
		either(t, "Ann", of(api.TPower, "", ann, c.next), state, c.ann)
		either(t, "Bob", of(api.TPower, "", bob, c.next), state, c.bob)
		denied(t, "who is not joined", of(api.TPower, "", cat, c.next), state)
		// Of another key they change nobody's levels.
		allowed(t, "Ann, of another key", of(api.TPower, "x", ann, c.next), state)
		allowed(t, "Bob, not of a state", plain(api.TPower, bob, c.next), state)
	}
	// What the type asks for comes first.
	state = opened(is(bob, "join"), levels(`{"users":{"@bob:s2":50},"events":{"m.room.power_levels":51}}`))
	denied(t, "the same again", of(api.TPower, "", bob, `{"users":{"@bob:s2":50},"events":{"m.room.power_levels":51}}`), state)
}

// TestAllElse (11.2, rule 8): whatever else is sent by who is joined.
func TestAllElse(t *testing.T) {
	state := opened(is(ann, "join"), is(bob, "join"))
	for _, sender := range []string{ann, bob} {
		for _, e := range sent(sender) {
			allowed(t, "sent", e, state)
			allowed(t, "with more", with(e, follows(name(5), name(6)), func(e *api.Event) {
				e.Auth, e.Depth, e.Ts = []string{name(7)}, api.MaxHeight, api.MaxInt
			}), state)
		}
	}
}
