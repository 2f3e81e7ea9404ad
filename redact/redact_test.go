package redact

import (
	"slices"
	"strings"
	"testing"

	"agora/api"
	"agora/event"
)

// allKeys are all keys that some type keeps, and some that none does, nearly the same ones among them.
func allKeys() []string {
	l := []string{
		"", "body", "name", "topic", "reason", "redacts", "displayname", "avatar_url", "notifications", "allow", "x", "\x00", "é", "\"",
		"m.federate", "room_version", "predecessor", "third_party_invite", "content", "type", "sender", "historical",
	}
	for _, keys := range keepers() {
		for _, k := range keys {
			l = append(l, k, k+"s", k[1:], strings.ToUpper(k), k+" ", " "+k, k+"\x00", "_"+k)
		}
	}
	slices.Sort(l)
	return slices.Compact(l)
}

// TestByHand (6.1): of each type that keeps keys, with some that are kept and some that are not, of a state and not.
func TestByHand(t *testing.T) {
	for _, c := range []struct{ kind, content, want string }{
		{api.TMessage, `{"body":"hello"}`, `{}`},
		{api.TMessage, `{"body":"hello","membership":"join","creator":"@ann:s1","ban":1,"join_rule":"public"}`, `{}`},
		{api.TName, `{"name":"agora"}`, `{}`},
		{api.TRedact, `{"redacts":"$AAAAAAAAAAE","reason":"x"}`, `{}`},
		{api.TDummy, `{"x":[1,{"y":2}]}`, `{}`},
		{"m.room.topic", `{"topic":"all"}`, `{}`},
		{"a", `{"a":{"creator":"@ann:s1"}}`, `{}`},
		{api.TCreate, `{"creator":"@ann:s1"}`, `{"creator":"@ann:s1"}`},
		{api.TCreate, `{"creator":"@ann:s1","room_version":"1","membership":"join"}`, `{"creator":"@ann:s1"}`},
		{api.TMember, `{"membership":"join","reason":"so"}`, `{"membership":"join"}`},
		{api.TMember, `{"displayname":"Ann","membership":"ban","reason":"so"}`, `{"membership":"ban"}`},
		{api.TMember, `{"displayname":"Ann"}`, `{}`},
		{api.TRules, `{"allow":[],"join_rule":"invite"}`, `{"join_rule":"invite"}`},
		{api.TPower, `{"ban":50,"events":{"m.room.name":10},"events_default":0,"invite":1,"kick":2,"notifications":{"room":3},"redact":4,"state_default":5,"users":{"@ann:s1":100},"users_default":6}`,
			`{"ban":50,"events":{"m.room.name":10},"events_default":0,"invite":1,"kick":2,"redact":4,"state_default":5,"users":{"@ann:s1":100},"users_default":6}`},
		{api.TPower, `{"users":{"@ann:s1":100},"x":1}`, `{"users":{"@ann:s1":100}}`},
		{api.TPower, `{"creator":1,"membership":2,"join_rule":3}`, `{}`},
	} {
		in := value(t, c.content)
		for _, content := range []api.Json{in, backwards(in)} {
			left(t, c.kind+" "+c.content, message(c.kind, content), c.want)
			left(t, c.kind+" "+c.content, full(c.kind, content), c.want)
		}
	}
}

// TestNoKeys (6.1): a content without any key.
func TestNoKeys(t *testing.T) {
	for _, kind := range []string{api.TCreate, api.TMember, api.TPower, api.TRules, api.TMessage, api.TName, api.TRedact, api.TDummy, "a"} {
		left(t, kind, message(kind, table(nil)), `{}`)
		left(t, kind, full(kind, table([]string{}, []api.Json{}...)), `{}`)
	}
}

// TestEachKey (6.1): each key alone, and each left out, under each type.
func TestEachKey(t *testing.T) {
	kinds := []string{api.TMessage, api.TName, api.TRedact, api.TDummy, "m.room.topic"}
	for kind := range keepers() {
		kinds = append(kinds, kind)
	}
	for _, kind := range kinds {
		for _, key := range allKeys() {
			got := Redact(message(kind, table([]string{key}, text("v"))))
			want := table(nil)
			if slices.Contains(keepers()[kind], key) {
				want = table([]string{key}, text("v"))
			}
			if !sameJson(got.Content, want) {
				t.Errorf("%s with %q alone: %+v", kind, key, got.Content)
			}
		}
		for out := range allKeys() {
			keys := slices.Delete(allKeys(), out, out+1)
			var values, stay []api.Json
			var kept []string
			for i, key := range keys {
				values = append(values, number(int64(i)))
				if slices.Contains(keepers()[kind], key) {
					kept, stay = append(kept, key), append(stay, number(int64(i)))
				}
			}
			e := full(kind, backwards(table(keys, values...)))
			if got := Redact(e); !sameRest(got, e) || !sameJson(got.Content, table(kept, stay...)) {
				t.Errorf("%s without %q: %+v", kind, allKeys()[out], got.Content)
			}
		}
	}
}

// TestValues (6.1): values of all kinds are kept as they are, but in order, however deep.
func TestValues(t *testing.T) {
	for _, v := range []string{
		`null`, `true`, `false`, `0`, `-1`, `9007199254740991`, `-9007199254740991`, `""`, `"é\"\\\u0000"`, `[]`, `{}`,
		`[3,1,2,"b","a"]`, `{"a":1,"b":[2,{"c":3,"d":4}],"ba":null}`, `[{"a":{"x":1,"y":{"p":1,"q":2}},"b":[]},{"a":1,"b":2}]`,
		`{"ban":1,"creator":2,"reason":3,"x":{"reason":4,"body":"kept"}}`,
	} {
		in := value(t, v)
		for kind, keys := range keepers() {
			for _, key := range keys {
				want := table([]string{key}, in)
				for _, content := range []api.Json{
					table([]string{key}, in), table([]string{key}, backwards(in)),
					table([]string{"x", key, "a"}, backwards(in), backwards(in), in), table([]string{"~", key}, null(), backwards(in)),
				} {
					e := full(kind, content)
					if got := Redact(e); !sameJson(got.Content, want) || !sameRest(got, e) {
						t.Errorf("%s, %s: %+v", kind, v, got.Content)
					}
				}
			}
		}
	}
}

// TestRest (6.1, 6.2): all but the content is as it was, at each limit and at nothing.
func TestRest(t *testing.T) {
	for what, do := range map[string]func(e *api.Event){
		"nothing":            func(e *api.Event) { *e = message(e.Type, e.Content) },
		"another room":       func(e *api.Event) { e.Room = "!other:s9" },
		"another sender":     func(e *api.Event) { e.Sender = "@zoe:s9" },
		"not of a state":     func(e *api.Event) { e.IsState, e.Key = false, "" },
		"an empty key":       func(e *api.Event) { e.Key = "" },
		"the longest key":    func(e *api.Event) { e.Key = strings.Repeat("k", api.MaxKey) },
		"a key of any sort":  func(e *api.Event) { e.Key = "\x00\"\\é" },
		"no prev":            func(e *api.Event) { e.Prev = nil },
		"most prev":          func(e *api.Event) { e.Prev = names(api.MaxPrev) },
		"prev in no order":   func(e *api.Event) { e.Prev = []string{names(3)[2], names(3)[0], names(3)[1]} },
		"no auth":            func(e *api.Event) { e.Auth = []string{} },
		"most auth":          func(e *api.Event) { e.Auth = names(api.MaxAuth) },
		"depth 0":            func(e *api.Event) { e.Depth = 0 },
		"the greatest depth": func(e *api.Event) { e.Depth = api.MaxHeight },
		"time 0":             func(e *api.Event) { e.Ts = 0 },
		"the latest time":    func(e *api.Event) { e.Ts = api.MaxInt },
		"no hash":            func(e *api.Event) { e.Hash = "" },
		"no signatures":      func(e *api.Event) { e.Sigs = nil },
		"most signatures": func(e *api.Event) {
			e.Sigs = []api.Sig{{Server: "a", Token: letters(4)}, {Server: "b", Token: letters(3)}, {Server: "c", Token: letters(2)}, {Server: "d", Token: letters(1)}}
		},
	} {
		e := full(api.TMember, table([]string{"reason", "membership"}, text("so"), text("leave")))
		do(&e)
		left(t, what, e, `{"membership":"leave"}`)
		e.Type = api.TMessage
		left(t, what, e, `{}`)
	}
}

// TestLong (6.1): an event that is well shaped but for its length is redacted, too.
func TestLong(t *testing.T) {
	for _, n := range []int{api.MaxBytes - 1, api.MaxBytes, api.MaxBytes + 1, 2 * api.MaxBytes, 1 << 20} {
		want := api.OK
		if n > api.MaxBytes {
			want = api.ErrLong
		}
		e := long(t, api.TMember, "reason", n)
		if err := event.Shape(e); err != want {
			t.Fatalf("%d bytes: error %d", n, err)
		}
		left(t, "a long reason", e, `{}`)
		if err := event.Shape(Redact(e)); err != api.OK {
			t.Errorf("a long reason: its redaction: error %d", err)
		}
		e = long(t, api.TMember, "membership", n)
		if got := Redact(e); !same(got, e) || event.Shape(got) != want {
			t.Errorf("a long membership of %d bytes: error %d", n, event.Shape(got))
		}
		e.Content = table([]string{"reason", "membership"}, e.Content.List[0], text("join"))
		left(t, "a long reason beside a membership", e, `{"membership":"join"}`)
	}
}

// TestDeep (6.1): the deepest content, kept and not, and one that is too deep.
func TestDeep(t *testing.T) {
	most := nested(api.MaxDepth - 2)
	e := message(api.TPower, table([]string{"x", "ban"}, most, most))
	if got := Redact(e); !sameJson(got.Content, table([]string{"ban"}, most)) || !sameRest(got, e) {
		t.Errorf("%+v", got.Content)
	}
	for _, key := range []string{"ban", "x"} {
		gone(t, "too deep under "+key, message(api.TPower, table([]string{key}, list(most))))
		gone(t, "too deep under "+key, message(api.TMessage, table([]string{key}, list(most))))
	}
}

// TestWrong (6.1): of an event that is not well shaped nothing is left.
func TestWrong(t *testing.T) {
	two := names(2)
	for what, do := range map[string]func(e *api.Event){
		"nothing":               func(e *api.Event) { *e = api.Event{} },
		"no room":               func(e *api.Event) { e.Room = "" },
		"a user for a room":     func(e *api.Event) { e.Room = "@r:s1" },
		"no sender":             func(e *api.Event) { e.Sender = "" },
		"a room for a sender":   func(e *api.Event) { e.Sender = "!ann:s1" },
		"a key, no state":       func(e *api.Event) { e.IsState = false },
		"a key too long":        func(e *api.Event) { e.Key = strings.Repeat("k", api.MaxKey+1) },
		"a key of no letters":   func(e *api.Event) { e.Key = "\xff" },
		"prev that is no name":  func(e *api.Event) { e.Prev = []string{"x"} },
		"prev twice":            func(e *api.Event) { e.Prev = append(two, two[0]) },
		"too many prev":         func(e *api.Event) { e.Prev = names(api.MaxPrev + 1) },
		"auth that is no name":  func(e *api.Event) { e.Auth = []string{""} },
		"auth twice":            func(e *api.Event) { e.Auth = append(two, two[1]) },
		"too many auth":         func(e *api.Event) { e.Auth = names(api.MaxAuth + 1) },
		"a depth below 0":       func(e *api.Event) { e.Depth = -1 },
		"a depth too great":     func(e *api.Event) { e.Depth = api.MaxHeight + 1 },
		"a time below 0":        func(e *api.Event) { e.Ts = -1 },
		"a time too great":      func(e *api.Event) { e.Ts = api.MaxInt + 1 },
		"a hash that is none":   func(e *api.Event) { e.Hash = "AAAAAAAAAAB" },
		"a hash too short":      func(e *api.Event) { e.Hash = "AAAAAAAAAA" },
		"signatures that fall":  func(e *api.Event) { e.Sigs[0], e.Sigs[1] = e.Sigs[1], e.Sigs[0] },
		"a signature twice":     func(e *api.Event) { e.Sigs[1] = e.Sigs[0] },
		"a token that is none":  func(e *api.Event) { e.Sigs[0].Token = "" },
		"a server that is none": func(e *api.Event) { e.Sigs[0].Server = "" },
		"too many signatures": func(e *api.Event) {
			e.Sigs = nil
			for _, s := range []string{"a", "b", "c", "d", "e"} {
				e.Sigs = append(e.Sigs, api.Sig{Server: s, Token: letters(1)})
			}
		},
		"a type too long":                  func(e *api.Event) { e.Type = strings.Repeat("a", api.MaxType+1) },
		"no type":                          func(e *api.Event) { e.Type = "" },
		"a type with a blank":              func(e *api.Event) { e.Type += " " },
		"long, and not shaped":             func(e *api.Event) { e.Content.List[0].Text, e.Depth = strings.Repeat("a", api.MaxBytes), -1 },
		"content: null":                    func(e *api.Event) { e.Content = null() },
		"content: a list":                  func(e *api.Event) { e.Content = list(text("membership")) },
		"content: a text":                  func(e *api.Event) { e.Content = text("membership") },
		"content: a number":                func(e *api.Event) { e.Content = number(1) },
		"content: a truth":                 func(e *api.Event) { e.Content = truth(1) },
		"content: of no kind":              func(e *api.Event) { e.Content.Kind = 6 },
		"content: a key more":              func(e *api.Event) { e.Content.Keys = append(e.Content.Keys, "x") },
		"content: a value more":            func(e *api.Event) { e.Content.List = append(e.Content.List, null()) },
		"content: keys alone":              func(e *api.Event) { e.Content.List = nil },
		"content: a text beside its map":   func(e *api.Event) { e.Content.Text = "x" },
		"content: a kept key twice":        func(e *api.Event) { e.Content.Keys[0] = "membership" },
		"content: another key twice":       func(e *api.Event) { e.Content = table([]string{"a", "a"}, null(), null()) },
		"content: a key of no letters":     func(e *api.Event) { e.Content.Keys[0] = "\xff" },
		"content: another value not right": func(e *api.Event) { e.Content.List[0] = number(api.MaxInt + 1) },
		"content: a kept value not right":  func(e *api.Event) { e.Content.List[1] = truth(2) },
		"content: a text of no letters":    func(e *api.Event) { e.Content.List[0] = text("\xff") },
	} {
		e := full(api.TMember, table([]string{"reason", "membership"}, text("so"), text("leave")))
		if got := Redact(e); same(got, api.Event{}) {
			t.Fatal("nothing is left of a right event")
		}
		do(&e)
		gone(t, what, e)
	}
}
