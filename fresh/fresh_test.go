package fresh

import (
	"reflect"
	"testing"

	"agora/api"
)

// told is an event all of whose rows have something; each call makes it anew.
func told() api.Event {
	word := api.Json{Kind: api.JText, Text: "x"}
	inner := api.Json{Kind: api.JMap, Keys: []string{"b", "a"}, List: []api.Json{word, {Kind: api.JList, List: []api.Json{word}}}}
	return api.Event{
		Room: "!r:s1", Type: api.TName, Sender: "@ann:s1", IsState: true, Key: "k", Depth: 3, Ts: 7, Hash: "AAAAAAAAAAE",
		Content: api.Json{Kind: api.JMap, Int: 5, Text: "y", Keys: []string{"z", "c"}, List: []api.Json{inner, word}},
		Prev:    []string{"$AAAAAAAAAAE", "$AAAAAAAAAAI"}, Auth: []string{"$AAAAAAAAAAM"}, Sigs: []api.Sig{{Server: "s1", Token: "AAAAAAAAAAI"}},
	}
}

// spoil writes over all memory of a value, with what lies behind the ends of its rows.
func spoil(j api.Json) {
	for _, value := range j.List {
		spoil(value)
	}
	j.Keys, j.List = j.Keys[:cap(j.Keys)], j.List[:cap(j.List)]
	for i := range j.Keys {
		j.Keys[i] = "spoilt"
	}
	for i := range j.List {
		j.List[i] = api.Json{Kind: 77}
	}
}

// TestSame: what is told again is the same, keys that are not in order, and rows that are nil or empty, too.
func TestSame(t *testing.T) {
	empty := api.Event{Prev: []string{}, Content: api.Json{Keys: []string{}, List: []api.Json{}}}
	for _, e := range []api.Event{told(), {}, empty} {
		if again := Event(e); !reflect.DeepEqual(again, e) {
			t.Errorf("%+v, not %+v", again, e)
		}
	}
}

// TestApart (R4): who writes over the one changes nothing of the other one.
func TestApart(t *testing.T) {
	one := told()
	for range 2 {
		again := Event(one)
		spoil(again.Content)
		again.Prev[1], again.Auth[0], again.Sigs[0] = "spoilt", "spoilt", api.Sig{}
		if !reflect.DeepEqual(one, told()) {
			t.Fatalf("it became %+v", one)
		}
	}
	again := Event(one)
	spoil(one.Content)
	one.Prev[0], one.Auth[0], one.Sigs[0] = "spoilt", "spoilt", api.Sig{}
	if !reflect.DeepEqual(again, told()) {
		t.Errorf("it became %+v", again)
	}
}

// TestBehindTheEnd (R4): what lies behind a row's end is not shared.
func TestBehindTheEnd(t *testing.T) {
	e := told()
	e.Prev, e.Content.Keys, e.Content.List = e.Prev[:1], e.Content.Keys[:1], e.Content.List[:1]
	again := Event(e)
	_, _, _ = append(again.Prev, "spoilt"), append(again.Content.Keys, "spoilt"), append(again.Content.List, api.Json{Kind: 77})
	spoil(again.Content)
	want := told()
	if e.Prev = e.Prev[:2]; !reflect.DeepEqual(e.Prev, want.Prev) {
		t.Errorf("%v", e.Prev)
	}
	if e.Content.Keys, e.Content.List = e.Content.Keys[:2], e.Content.List[:2]; !reflect.DeepEqual(e, want) {
		t.Errorf("%+v", e)
	}
}
