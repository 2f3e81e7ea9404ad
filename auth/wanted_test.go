package auth

import (
	"math/rand"
	"slices"
	"testing"

	"agora/api"
)

// hangs holds Wanted to entries, given as types and keys in turn.
func hangs(t *testing.T, what string, e api.Event, want ...string) {
	t.Helper()
	var l []api.Entry
	for pair := range slices.Chunk(want, 2) {
		l = append(l, api.Entry{Type: pair[0], Key: pair[1]})
	}
	if got := Wanted(e); !slices.Equal(got, l) {
		t.Errorf("%s: %+v, not %+v", what, got, l)
	}
}

// TestWantedOfCreate (11.1): nothing, however such an event looks.
func TestWantedOfCreate(t *testing.T) {
	hangs(t, "a creation", create())
	hangs(t, "of another key", with(create(), func(e *api.Event) { e.Key = bob }))
	hangs(t, "not of a state", plain(api.TCreate, ann, `{}`))
	hangs(t, "with a membership", of(api.TCreate, bob, ann, `{"membership":"join"}`))
}

// TestWantedOfOthers (11.1): three of all that is no membership of a state, whatever its key and content.
func TestWantedOfOthers(t *testing.T) {
	for _, kind := range []string{api.TMessage, api.TName, api.TPower, api.TRules, api.TRedact, api.TDummy, "x", "m.room.member_", "m.room.membe", ""} {
		for _, content := range []string{`{}`, `{"membership":"join"}`, `{"membership":"invite"}`} {
			for _, e := range []api.Event{plain(kind, ann, content), of(kind, "", ann, content), of(kind, ann, ann, content), of(kind, bob, ann, content)} {
				hangs(t, kind, e, api.TCreate, "", api.TPower, "", api.TMember, ann)
			}
		}
	}
	for _, content := range []string{`{}`, `{"membership":"join"}`, `{"membership":"invite"}`} {
		hangs(t, "a member not of a state", plain(api.TMember, bob, content), api.TCreate, "", api.TPower, "", api.TMember, bob)
	}
}

// TestWantedOfMembers (11.1): the key's membership, too, and the rule of who comes in.
func TestWantedOfMembers(t *testing.T) {
	for _, m := range []string{"join", "invite"} {
		hangs(t, m, member(ann, bob, m), api.TCreate, "", api.TPower, "", api.TMember, ann, api.TMember, bob, api.TRules, "")
		hangs(t, m+" of oneself", member(bob, bob, m), api.TCreate, "", api.TPower, "", api.TMember, bob, api.TRules, "")
	}
	for _, m := range []string{"leave", "ban", "knock", "", "Join", "join ", "joi", "invited"} {
		hangs(t, m, member(ann, bob, m), api.TCreate, "", api.TPower, "", api.TMember, ann, api.TMember, bob)
		hangs(t, m+" of oneself", member(bob, bob, m), api.TCreate, "", api.TPower, "", api.TMember, bob)
	}
}

// TestWantedOfNoText (11.1): a membership that is no text is none, nor one under another key, or further within.
func TestWantedOfNoText(t *testing.T) {
	for _, content := range []string{`{}`, `{"membership":null}`, `{"membership":true}`, `{"membership":1}`, `{"membership":["join"]}`, `{"membership":{"membership":"join"}}`, `{"Membership":"join"}`, `{"a":{"membership":"join"}}`, `{"join":"membership"}`} {
		hangs(t, content, of(api.TMember, bob, ann, content), api.TCreate, "", api.TPower, "", api.TMember, ann, api.TMember, bob)
	}
	many := table([]string{"z", "membership", "a"}, word("leave"), word("join"), word("ban"))
	e := with(member(bob, bob, ""), func(e *api.Event) { e.Content = many })
	hangs(t, "among others, not in order", e, api.TCreate, "", api.TPower, "", api.TMember, bob, api.TRules, "")
}

// TestWantedOfWrong (11.1): the same of what is no event: nothing is asked but type, sender, key and membership.
func TestWantedOfWrong(t *testing.T) {
	hangs(t, "nothing", api.Event{}, api.TCreate, "", api.TPower, "", api.TMember, "")
	e := api.Event{Type: api.TMember, IsState: true}
	hangs(t, "no sender and no key", e, api.TCreate, "", api.TPower, "", api.TMember, "")
	e.Key, e.Sender = "x", "y"
	hangs(t, "a key that is no user", e, api.TCreate, "", api.TPower, "", api.TMember, "y", api.TMember, "x")
	e.Content = api.Json{Kind: api.JMap, Keys: []string{"membership"}}
	hangs(t, "a key that lacks its value", e, api.TCreate, "", api.TPower, "", api.TMember, "y", api.TMember, "x")
	e.Content = api.Json{Kind: api.JList, Keys: []string{"membership"}, List: []api.Json{word("join")}}
	hangs(t, "a list", e, api.TCreate, "", api.TPower, "", api.TMember, "y", api.TMember, "x")
	e = with(member(ann, bob, "join"), func(e *api.Event) { e.Depth, e.Room = -1, "" })
	hangs(t, "no room", e, api.TCreate, "", api.TPower, "", api.TMember, ann, api.TMember, bob, api.TRules, "")
}

// TestWantedEachOnce (11.1): of any event, each type and key once, without an id, one of which is the create event's.
func TestWantedEachOnce(t *testing.T) {
	r := rand.New(rand.NewSource(111))
	for range 2000 {
		e := chanceEvent(r, name(1))
		l := Wanted(e)
		if e.Type == api.TCreate && len(l) == 0 {
			continue
		}
		stood := map[api.Entry]bool{}
		for _, entry := range l {
			if stood[entry] || entry.Id != "" {
				t.Fatalf("%+v: %s", l, short(e))
			}
			stood[entry] = true
		}
		if len(l) < 3 || len(l) > 5 || l[0] != (api.Entry{Type: api.TCreate}) || !stood[api.Entry{Type: api.TMember, Key: e.Sender}] {
			t.Fatalf("%+v: %s", l, short(e))
		}
	}
}
