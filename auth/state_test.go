package auth

import (
	"slices"
	"testing"

	"agora/api"
)

// TestFirstCounts (11.2): of two events of one type and key the first one is the state's.
func TestFirstCounts(t *testing.T) {
	rest := []api.Event{create(), is(ann, "join")}
	for _, c := range []struct {
		what    string
		yes, no api.Event
		e       api.Event
	}{
		{"the sender's membership", is(bob, "join"), is(bob, "leave"), message(bob)},
		{"the target's membership", is(bob, "invite"), is(bob, "ban"), is(bob, "join")},
		{"a membership that is no text", is(bob, "join"), of(api.TMember, bob, bob, `{"membership":1}`), message(bob)},
		{"the rule", rule("public"), rule("invite"), is(bob, "join")},
		{"a rule that is no text", rule("public"), of(api.TRules, "", ann, `{"join_rule":["public"]}`), is(bob, "join")},
		{"the levels", levels(`{"users":{"` + ann + `":50}}`), levels(`{"users":{"` + ann + `":49}}`), of(api.TName, "", ann, `{}`)},
		{"levels that are none", levels(`{"users":{"` + ann + `":50}}`), levels(`{"ban":null}`), of(api.TName, "", ann, `{}`)},
	} {
		// The other one may be by whom it will.
		no := with(c.no, func(e *api.Event) { e.Sender = cat })
		for at := range len(rest) + 1 {
			allowed(t, c.what, c.e, stateOf(slices.Insert(slices.Clone(rest), at, c.yes)...))
			allowed(t, c.what, c.e, stateOf(slices.Insert(slices.Clone(rest), at, c.yes, no)...))
			allowed(t, c.what, c.e, stateOf(append(slices.Insert(slices.Clone(rest), at, c.yes), no, no)...))
			denied(t, c.what, c.e, stateOf(slices.Insert(slices.Clone(rest), at, no)...))
			denied(t, c.what, c.e, stateOf(slices.Insert(slices.Clone(rest), at, no, c.yes)...))
			denied(t, c.what, c.e, stateOf(append(slices.Insert(slices.Clone(rest), at, no), c.yes)...))
		}
	}
}

// TestFirstCreateCounts (11.2): so it is with the create event, its room, its sender and its name.
func TestFirstCreateCounts(t *testing.T) {
	other := with(create(), func(e *api.Event) { e.Room = "!other:s1" })
	theirs := with(create(), func(e *api.Event) { e.Sender = dan })
	in := is(ann, "join")
	allowed(t, "the room's first", message(ann), stateOf(create(), other, in))
	denied(t, "another room's first", message(ann), stateOf(other, create(), in))
	kick := member(ann, bob, "leave")
	allowed(t, "her own first", kick, stateOf(create(), theirs, in))
	denied(t, "another one's first", kick, stateOf(theirs, create(), in))
	join := func(prev string) api.Event { return with(is(ann, "join"), follows(prev)) }
	allowed(t, "behind the first", join(name(1)), stateOf(create(), create()))
	denied(t, "behind the second", join(name(2)), stateOf(create(), create()))
	denied(t, "behind one that is another user's", join(name(1)), stateOf(theirs, create()))
	denied(t, "behind the second, the first being another user's", join(name(2)), stateOf(theirs, create()))
}

// TestOfAState (11.2): an event that is not of a state, or of another type or key, is none of the state's.
func TestOfAState(t *testing.T) {
	for _, c := range []struct {
		what  string
		of, e api.Event
	}{
		{"the create event", create(), message(ann)},
		{"the sender's membership", is(bob, "join"), message(bob)},
		{"the target's membership", is(cat, "invite"), is(cat, "join")},
		{"the rule", rule("public"), is(dan, "join")},
		{"the levels", levels(`{"users":{"` + bob + `":100}}`), member(bob, cat, "ban")},
	} {
		rest := []api.Event{is(ann, "join")}
		if c.of.Type != api.TCreate {
			rest = append(rest, create())
		}
		if c.of.Key != bob {
			rest = append(rest, is(bob, "join"))
		}
		allowed(t, c.what, c.e, stateOf(append(rest, c.of)...))
		denied(t, c.what, c.e, stateOf(rest...))
		for _, do := range []func(e *api.Event){
			func(e *api.Event) { e.IsState = false },
			func(e *api.Event) { e.IsState, e.Key = false, "" },
			func(e *api.Event) { e.Key += "x" },
			func(e *api.Event) { e.Type += "x" },
			func(e *api.Event) { e.Type = api.TName },
		} {
			odd := with(c.of, do)
			denied(t, c.what, c.e, stateOf(append(slices.Clone(rest), odd)...))
			// It does not stand in the way of the one that counts.
			allowed(t, c.what, c.e, stateOf(append([]api.Event{odd}, append(slices.Clone(rest), c.of)...)...))
			allowed(t, c.what, c.e, stateOf(append(slices.Clone(rest), c.of, odd)...))
		}
	}
}

// TestNamesOfAState (11.2): names count for the create event alone, others may have any, or one name.
func TestNamesOfAState(t *testing.T) {
	state := opened(is(ann, "join"), is(bob, "join"))
	for _, n := range []string{"", "x", name(1)} {
		named := slices.Clone(state)
		for i := range named {
			named[i].Name = n
		}
		allowed(t, n, message(bob), named)
		denied(t, n, message(cat), named)
		allowed(t, n, member(ann, bob, "ban"), named)
	}
}

// TestWrongContents (11.2): contents of a state that may not be tell no text, and no levels, and nothing breaks.
func TestWrongContents(t *testing.T) {
	put := func(e api.Event, c api.Json) api.Event {
		e.Content = c
		return e
	}
	for _, key := range []string{"membership", "join_rule"} {
		for _, c := range []api.Json{
			{},
			{Kind: api.JMap, Keys: []string{key}},
			{Kind: api.JMap, Keys: []string{"a", key}, List: []api.Json{word("join")}},
			{Kind: api.JMap, List: []api.Json{word("join")}},
			{Kind: api.JList, Keys: []string{key}, List: []api.Json{word("join")}},
			{Kind: api.JList, Keys: []string{key}, List: []api.Json{word("public")}},
			{Kind: api.JText, Text: "join"},
			{Kind: -1, Keys: []string{key}, List: []api.Json{word("join")}},
			{Kind: 99, Keys: []string{key}, List: []api.Json{word("public")}},
			{Kind: api.JMap, Keys: []string{key}, List: []api.Json{{Kind: api.JInt, Text: "join"}}},
			{Kind: api.JMap, Keys: []string{key}, List: []api.Json{{Kind: 99, Text: "public"}}},
		} {
			denied(t, "a membership", message(bob), opened(put(is(bob, "join"), c)))
			denied(t, "a membership", is(bob, "leave"), opened(put(is(bob, "join"), c)))
			denied(t, "a rule", is(bob, "join"), opened(put(rule("public"), c)))
			allowed(t, "an invitation of nobody", member(ann, bob, "invite"), opened(is(ann, "join"), put(is(bob, "join"), c)))
		}
	}
	// The create event's content is not asked for.
	allowed(t, "a create event of any content", message(ann), stateOf(put(create(), api.Json{Kind: 77}), is(ann, "join")))
}
