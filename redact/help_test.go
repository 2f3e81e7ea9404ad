package redact

import (
	"encoding/base64"
	"encoding/binary"
	"slices"
	"strings"
	"testing"

	"agora/api"
	"agora/canon"
	"agora/event"
)

// letters tells the eleven letters of a number, by Go's own base64.
func letters(n uint64) string {
	return base64.RawStdEncoding.EncodeToString(binary.BigEndian.AppendUint64(nil, n))
}

// names tells so many events' names.
func names(n int) []string {
	var l []string
	for i := range n {
		l = append(l, "$"+letters(uint64(i+1)))
	}
	return l
}

func null() api.Json { return api.Json{Kind: api.JNull} }

func truth(n int64) api.Json { return api.Json{Kind: api.JBool, Int: n} }

func number(n int64) api.Json { return api.Json{Kind: api.JInt, Int: n} }

func text(s string) api.Json { return api.Json{Kind: api.JText, Text: s} }

func list(l ...api.Json) api.Json { return api.Json{Kind: api.JList, List: l} }

// table makes a map of keys and as many values.
func table(keys []string, l ...api.Json) api.Json {
	return api.Json{Kind: api.JMap, Keys: keys, List: l}
}

// nested tells a value of that depth: lists within one another.
func nested(deep int) api.Json {
	j := number(1)
	for range deep - 1 {
		j = list(j)
	}
	return j
}

// message tells an event that has as little as may be, of that type and that content.
func message(kind string, content api.Json) api.Event {
	return api.Event{Room: "!r:s1", Type: kind, Sender: "@ann:s1", Content: content}
}

// full tells an event of a state that has something of everything, of that type and that content.
func full(kind string, content api.Json) api.Event {
	return api.Event{
		Room: "!r:s1", Type: kind, Sender: "@ann:s2", IsState: true, Key: "@bob:s3", Content: content,
		Prev: names(3)[1:], Auth: names(5)[2:], Depth: 7, Ts: 99, Hash: letters(5),
		Sigs: []api.Sig{{Server: "s1", Token: letters(8)}, {Server: "s2", Token: letters(9)}},
	}
}

// sameJson holds two values against each other, order and all; an empty list may be nil.
func sameJson(a, b api.Json) bool {
	return a.Kind == b.Kind && a.Int == b.Int && a.Text == b.Text &&
		slices.Equal(a.Keys, b.Keys) && slices.EqualFunc(a.List, b.List, sameJson)
}

// sameRest holds all of two events but their contents against each other.
func sameRest(a, b api.Event) bool {
	return a.Room == b.Room && a.Type == b.Type && a.Sender == b.Sender && a.IsState == b.IsState && a.Key == b.Key &&
		slices.Equal(a.Prev, b.Prev) && slices.Equal(a.Auth, b.Auth) &&
		a.Depth == b.Depth && a.Ts == b.Ts && a.Hash == b.Hash && slices.Equal(a.Sigs, b.Sigs)
}

func same(a, b api.Event) bool { return sameRest(a, b) && sameJson(a.Content, b.Content) }

// value tells what a text of JSON says, in order.
func value(t *testing.T, s string) api.Json {
	t.Helper()
	j, err, at := canon.Decode([]byte(s))
	if err != api.OK {
		t.Fatalf("%s: error %d at %d", s, err, at)
	}
	return j
}

// backwards tells a value with all its maps in the opposite order.
func backwards(j api.Json) api.Json {
	var l []api.Json
	for _, v := range j.List {
		l = append(l, backwards(v))
	}
	j.List = l
	if j.Kind == api.JMap {
		j.Keys = slices.Clone(j.Keys)
		slices.Reverse(j.Keys)
		slices.Reverse(j.List)
	}
	return j
}

// left holds the redaction of an event to a content, and all else to what it was.
func left(t *testing.T, what string, e api.Event, content string) {
	t.Helper()
	got := Redact(e)
	if !sameRest(got, e) {
		t.Errorf("%s: more than the content changed: %+v became %+v", what, e, got)
	}
	if want := value(t, content); !sameJson(got.Content, want) {
		t.Errorf("%s: %+v, not %s", what, got.Content, content)
	}
}

// gone holds the redaction of an event to nothing.
func gone(t *testing.T, what string, e api.Event) {
	t.Helper()
	if event.Shape(e) != api.ErrShape {
		t.Errorf("%s: that event is well shaped: %+v", what, e)
	}
	if got := Redact(e); !same(got, api.Event{}) {
		t.Errorf("%s: %+v", what, got)
	}
}

// long tells a message of just so many bytes, with that key alone in its content.
func long(t *testing.T, kind, key string, n int) api.Event {
	t.Helper()
	e := full(kind, table([]string{key}, text("")))
	b, _ := event.Encode(e)
	e.Content.List[0].Text = strings.Repeat("a", n-len(b))
	return e
}
