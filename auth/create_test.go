package auth

import (
	"strings"
	"testing"

	"agora/api"
)

// TestExamples (11.2): the chapter's own, and those of the document that are of this layer.
func TestExamples(t *testing.T) {
	allowed(t, "a join by the creator", with(member(ann, ann, "join"), follows(name(1))), opened())
	denied(t, "a message by one who is not joined", message(bob), opened(is(ann, "join")))
	state := opened(is(ann, "join"), is(bob, "join"), levels(`{"users":{"`+ann+`":60,"`+bob+`":60}}`))
	denied(t, "a ban of one whose level is the same", member(ann, bob, "ban"), state)
}

// TestShapeFirst (11.2): what is no event is ErrShape, whatever the state, and whatever the rules say of the rest.
func TestShapeFirst(t *testing.T) {
	wrong := map[string]func(e *api.Event){
		"room":    func(e *api.Event) { e.Room = "r" },
		"type":    func(e *api.Event) { e.Type = "A" },
		"sender":  func(e *api.Event) { e.Sender = "ann" },
		"key":     func(e *api.Event) { e.IsState, e.Key = false, "x" },
		"long":    func(e *api.Event) { e.IsState, e.Key = true, strings.Repeat("k", api.MaxKey+1) },
		"utf":     func(e *api.Event) { e.IsState, e.Key = true, "\xff" },
		"content": func(e *api.Event) { e.Content = list() },
		"twice":   func(e *api.Event) { e.Content = table([]string{"a", "a"}, word(""), word("")) },
		"prev":    func(e *api.Event) { e.Prev = []string{name(1), name(1)} },
		"auth":    func(e *api.Event) { e.Auth = []string{"x"} },
		"depth":   func(e *api.Event) { e.Depth = -1 },
		"ts":      func(e *api.Event) { e.Ts = api.MaxInt + 1 },
		"hash":    func(e *api.Event) { e.Hash = "x" },
		"sigs":    func(e *api.Event) { e.Sigs = []api.Sig{{}} },
	}
	for what, do := range wrong {
		for _, state := range [][]api.Known{nil, opened(), opened(is(ann, "join"))} {
			for _, e := range []api.Event{create(), message(ann), message(bob), member(ann, bob, "invite"), of(api.TMember, "x", ann, `{}`)} {
				judged(t, what, with(e, do), state, api.ErrShape)
			}
		}
	}
	judged(t, "nothing", api.Event{}, nil, api.ErrShape)
	judged(t, "nothing", api.Event{}, opened(is("", "join")), api.ErrShape)
}

// TestLongIsJudged (11.2): an event whose bytes alone are too many is judged as any other one.
func TestLongIsJudged(t *testing.T) {
	long := func(e *api.Event) {
		e.Content.Keys = append([]string{"zz"}, e.Content.Keys...)
		e.Content.List = append([]api.Json{word(strings.Repeat("a", api.MaxBytes))}, e.Content.List...)
	}
	state := opened(is(ann, "join"))
	allowed(t, "a creation", with(create(), long), nil)
	allowed(t, "a message", with(message(ann), long), state)
	denied(t, "a message", with(message(bob), long), state)
	allowed(t, "an invitation", with(member(ann, bob, "invite"), long), state)
	denied(t, "a join", with(member(bob, bob, "join"), long), state)
}

// TestCreate (11.2, rule 1): all that a creation must be, and what it is when one thing is another.
func TestCreate(t *testing.T) {
	for _, state := range [][]api.Known{nil, {}, opened(), opened(is(ann, "ban")), stateOf(levels(`{"ban":true}`)), stateOf(message(bob))} {
		allowed(t, "a creation", create(), state)
		for what, do := range map[string]func(e *api.Event){
			"not of a state":                  func(e *api.Event) { e.IsState = false },
			"a key":                           func(e *api.Event) { e.Key = "x" },
			"its sender as its key":           func(e *api.Event) { e.Key = ann },
			"it follows something":            follows(name(1)),
			"it leans on something":           func(e *api.Event) { e.Auth = []string{name(1)} },
			"its room is another server's":    func(e *api.Event) { e.Room = "!r:s2" },
			"its sender is another server's":  func(e *api.Event) { e.Sender = "@ann:s2" },
			"both are another server's":       func(e *api.Event) { e.Sender, e.Room = "@ann:s2", "!r:s2" },
			"another user of that server":     func(e *api.Event) { e.Sender = dan },
			"a server that begins likewise":   func(e *api.Event) { e.Room = "!r:s11" },
			"no creator":                      func(e *api.Event) { e.Content = value(`{}`) },
			"another creator":                 func(e *api.Event) { e.Content = value(`{"creator":"` + dan + `"}`) },
			"a creator that is no text":       func(e *api.Event) { e.Content = value(`{"creator":["` + ann + `"]}`) },
			"an empty creator":                func(e *api.Event) { e.Content = value(`{"creator":""}`) },
			"a creator under another key":     func(e *api.Event) { e.Content = value(`{"Creator":"` + ann + `"}`) },
			"a creator somewhere further on":  func(e *api.Event) { e.Content = value(`{"a":{"creator":"` + ann + `"}}`) },
			"a creator that is the key alone": func(e *api.Event) { e.Content = value(`{"` + ann + `":"creator"}`) },
		} {
			denied(t, what, with(create(), do), state)
		}
	}
	all := with(create(), func(e *api.Event) {
		e.Room, e.Sender = "!x:s9", "@y:s9"
		e.Content = value(`{"a":1,"creator":"@y:s9","z":[]}`)
		e.Depth, e.Ts = 7, 9
	})
	allowed(t, "of another room, with other keys", all, opened())
	allowed(t, "of any depth, in any order", with(all, func(e *api.Event) {
		e.Content = table([]string{"z", "creator", "a"}, word(""), word("@y:s9"), word(""))
	}), nil)
}

// asked are events that are allowed in a room where Ann is joined, and Bob is invited.
func asked() []api.Event {
	return []api.Event{
		message(ann), of(api.TName, "", ann, `{}`), of(api.TRules, "", ann, `{"join_rule":"public"}`), levels(`{}`),
		member(ann, ann, "join"), member(bob, bob, "join"), member(ann, cat, "invite"), member(ann, ann, "leave"), member(bob, bob, "leave"),
		member(ann, bob, "leave"), member(ann, bob, "ban"), with(member(ann, ann, "join"), follows(name(1))),
	}
}

// TestNoCreate (11.2, rule 2): nothing is allowed without a create event of the same room.
func TestNoCreate(t *testing.T) {
	rest := []api.Event{is(ann, "join"), is(bob, "invite")}
	for i, e := range asked() {
		allowed(t, "with it", e, opened(rest...))
		denied(t, "an empty state", e, nil)
		denied(t, "no create event", e, stateOf(rest...))
		for what, do := range map[string]func(e *api.Event){
			"a key":                    func(e *api.Event) { e.Key = "x" },
			"not of a state":           func(e *api.Event) { e.IsState = false },
			"another room's":           func(e *api.Event) { e.Room = "!other:s1" },
			"a room of another server": func(e *api.Event) { e.Room = "!r:s2" },
			"no room":                  func(e *api.Event) { e.Room = "" },
			"another type":             func(e *api.Event) { e.Type = "m.room.creat" },
		} {
			denied(t, what, e, stateOf(append([]api.Event{with(create(), do)}, rest...)...))
		}
		denied(t, "an event of another room", with(e, func(e *api.Event) { e.Room = "!other:s1" }), opened(rest...))
		if i == 0 {
			// What is in the state may be of any room, but for the create event.
			other := with(is(ann, "join"), func(e *api.Event) { e.Room = "!other:s1" })
			allowed(t, "a membership of another room", e, opened(other))
		}
	}
}

// TestLevelsThatAreNone (11.2, rule 2): nothing is allowed where the state's levels are none, not even who needs no level.
func TestLevelsThatAreNone(t *testing.T) {
	rest := []api.Event{is(ann, "join"), is(bob, "invite")}
	for _, e := range asked() {
		for _, content := range []string{`{"ban":"50"}`, `{"users":{"ann":100}}`, `{"users":{"` + ann + `":null}}`, `{"events":[]}`, `{"users_default":1073741825}`, `{"redact":null}`} {
			denied(t, content, e, opened(append(rest, levels(content))...))
			denied(t, content, e, stateOf(append([]api.Event{levels(content), create()}, rest...)...))
			// Those of another key, or that are not of a state, do not count.
			allowed(t, content, e, opened(append(rest, of(api.TPower, "x", ann, content))...))
			allowed(t, content, e, opened(append(rest, plain(api.TPower, ann, content))...))
		}
		broken := levels(`{}`)
		broken.Content = list()
		denied(t, "a content that is no map", e, opened(append(rest, broken)...))
		broken.Content = table([]string{"x", "x"}, word(""), word(""))
		denied(t, "a content that is not good", e, opened(append(rest, broken)...))
	}
	allowed(t, "but a creation", create(), opened(levels(`{"ban":"50"}`)))
}
