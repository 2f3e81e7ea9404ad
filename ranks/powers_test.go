package ranks

import (
	"testing"

	"agora/api"
)

func word(s string) api.Json { return api.Json{Kind: api.JText, Text: s} }

// powers holds Powers to an answer.
func powers(t *testing.T, what string, e api.Event, want bool) {
	t.Helper()
	if Powers(e) != want {
		t.Errorf("%s: %t, not %t", what, !want, want)
	}
}

// TestPowersByKind (12.2): levels and rules of a state, with the empty key, whatever they say; no other types.
func TestPowersByKind(t *testing.T) {
	for kind, want := range map[string]bool{
		api.TPower: true, api.TRules: true,
		api.TCreate: false, api.TMember: false, api.TName: false, api.TMessage: false, api.TRedact: false, api.TDummy: false,
		"": false, api.TPower + "x": false, "m.room.join_rule": false,
	} {
		for _, content := range []string{`{}`, `null`, `{"users":1}`, `{"membership":"join"}`} {
			powers(t, kind+" "+content, of(kind, "", ann, content), want)
			powers(t, kind+" of a key "+content, of(kind, "x", ann, content), false)
			powers(t, kind+" of the sender "+content, of(kind, ann, ann, content), false)
			powers(t, kind+" of no state "+content, plain(kind, ann, content), false)
		}
	}
	e := of(api.TPower, "", "", `{}`)
	powers(t, "levels by nobody", e, true)
	powers(t, "nothing", api.Event{}, false)
}

// TestPowersOfMembers (12.2): who takes another one's membership away.
func TestPowersOfMembers(t *testing.T) {
	for m, want := range map[string]bool{"leave": true, "ban": true, "join": false, "invite": false, "knock": false, "": false, "Ban": false, "leave ": false} {
		powers(t, m+" of another one", member(ann, bob, m), want)
		powers(t, m+" of the sender", member(ann, ann, m), false)
		powers(t, m+" of the empty key", member(ann, "", m), want)
		powers(t, m+" of no user", member(ann, "x", m), want)
		e := member(ann, bob, m)
		e.IsState = false
		powers(t, m+" of no state", e, false)
		e = member(ann, bob, m)
		e.Type = api.TName
		powers(t, m+" of a name", e, false)
		e.Type = api.TCreate
		powers(t, m+" of a create event", e, false)
	}
	powers(t, "the empty key by the empty sender", member("", "", "ban"), false)
}

// TestPowersByText (12.2): the membership is the text under that key alone.
func TestPowersByText(t *testing.T) {
	for content, want := range map[string]bool{
		`{"a":1,"membership":"ban","z":"join"}`: true,
		`{"a":"ban","membership":"join"}`:       false,
		`{"member":"ban"}`:                      false,
		`{"Membership":"ban"}`:                  false,
		`{}`:                                    false,
		`{"membership":null}`:                   false,
		`{"membership":true}`:                   false,
		`{"membership":1}`:                      false,
		`{"membership":["ban"]}`:                false,
		`{"membership":{"membership":"ban"}}`:   false,
		`{"content":{"membership":"ban"}}`:      false,
		`["membership","ban"]`:                  false,
		`"ban"`:                                 false,
		`null`:                                  false,
	} {
		powers(t, content, of(api.TMember, bob, ann, content), want)
	}
}

// TestPowersOfAnyContent (12.2, R1): contents that are no good values: no key lacks its value, and the first one counts.
func TestPowersOfAnyContent(t *testing.T) {
	key := []string{"membership"}
	for what, c := range map[string]api.Json{
		"no values":       {Kind: api.JMap, Keys: key},
		"too few values":  {Kind: api.JMap, Keys: []string{"a", "membership"}, List: []api.Json{word("ban")}},
		"a list of that":  {Kind: api.JList, Keys: key, List: []api.Json{word("ban")}},
		"a text of that":  {Kind: api.JText, Text: "ban", Keys: key, List: []api.Json{word("ban")}},
		"no kind":         {Kind: 99, Keys: key, List: []api.Json{word("ban")}},
		"a text of null":  {Kind: api.JMap, Keys: key, List: []api.Json{{Text: "ban"}}},
		"a second one":    {Kind: api.JMap, Keys: []string{"membership", "membership"}, List: []api.Json{word("join"), word("ban")}},
		"values, no keys": {Kind: api.JMap, List: []api.Json{word("ban")}},
	} {
		e := member(ann, bob, "join")
		e.Content = c
		powers(t, what, e, false)
	}
	e := member(ann, bob, "join")
	e.Content = api.Json{Kind: api.JMap, Keys: []string{"z", "membership", "a"}, List: []api.Json{word("x"), word("ban"), word("y")}}
	powers(t, "not in order", e, true)
}
