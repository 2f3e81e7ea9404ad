package event

import (
	"bytes"
	"encoding/base64"
	"encoding/binary"
	"encoding/json"
	"slices"
	"strings"
	"testing"

	"agora/api"
)

// letters tells the eleven letters of a number, by Go's own base64.
func letters(n uint64) string {
	return base64.RawStdEncoding.EncodeToString(binary.BigEndian.AppendUint64(nil, n))
}

// names tells so many events' names.
func names(n int) []string {
	var l []string
	for i := range n {
		l = append(l, "$"+letters(uint64(i+1)))
	}
	return l
}

// sigsOf tells signatures of these servers.
func sigsOf(servers ...string) []api.Sig {
	var l []api.Sig
	for i, s := range servers {
		l = append(l, api.Sig{Server: s, Token: letters(uint64(i + 1))})
	}
	return l
}

func null() api.Json { return api.Json{Kind: api.JNull} }

func truth(n int64) api.Json { return api.Json{Kind: api.JBool, Int: n} }

func number(n int64) api.Json { return api.Json{Kind: api.JInt, Int: n} }

func text(s string) api.Json { return api.Json{Kind: api.JText, Text: s} }

func list(l ...api.Json) api.Json { return api.Json{Kind: api.JList, List: l} }

// table makes a map of keys and as many values.
func table(keys []string, l ...api.Json) api.Json {
	return api.Json{Kind: api.JMap, Keys: keys, List: l}
}

// nested tells a map of that depth, which has lists within one another.
func nested(deep int) api.Json {
	j := list()
	for range deep - 2 {
		j = list(j)
	}
	return table([]string{"a"}, j)
}

// plain tells a message that has as little as may be.
func plain() api.Event {
	return api.Event{Room: "!r:s1", Type: api.TMessage, Sender: "@ann:s1", Content: table(nil)}
}

// full tells an event of a state that has something of everything.
func full() api.Event {
	return api.Event{
		Room: "!r:s1", Type: api.TMember, Sender: "@ann:s2", IsState: true, Key: "@bob:s3",
		Content: table([]string{"membership", "a"}, text("invite"), table([]string{"z", "y"}, number(-1), null())),
		Prev:    names(2), Auth: names(3), Depth: 7, Ts: 99, Hash: letters(5), Sigs: sigsOf("s1", "s2"),
	}
}

// long tells an event of just so many bytes.
func long(t *testing.T, n int) api.Event {
	t.Helper()
	e := full()
	e.Content = table([]string{"body"}, text(""))
	e.Content.List[0].Text = strings.Repeat("a", n-len(model(e)))
	if len(model(e)) != n {
		t.Fatal("not so many bytes", len(model(e)))
	}
	return e
}

// goValue tells a value as Go's own JSON writer takes it.
func goValue(j api.Json) any {
	switch j.Kind {
	case api.JBool:
		return j.Int == 1
	case api.JInt:
		return j.Int
	case api.JText:
		return j.Text
	case api.JList:
		l := []any{}
		for _, v := range j.List {
			l = append(l, goValue(v))
		}
		return l
	case api.JMap:
		m := map[string]any{}
		for i, v := range j.List {
			m[j.Keys[i]] = goValue(v)
		}
		return m
	}
	return nil
}

// model tells an event's bytes by Go's own JSON writer.
func model(e api.Event) string {
	sigs := map[string]string{}
	for _, s := range e.Sigs {
		sigs[s.Server] = s.Token
	}
	m := map[string]any{
		"auth": append([]string{}, e.Auth...), "content": goValue(e.Content), "depth": e.Depth, "hash": e.Hash,
		"prev": append([]string{}, e.Prev...), "room": e.Room, "sender": e.Sender, "sigs": sigs, "ts": e.Ts, "type": e.Type,
	}
	if e.IsState {
		m["key"] = e.Key
	}
	var b bytes.Buffer
	w := json.NewEncoder(&b)
	w.SetEscapeHTML(false)
	if err := w.Encode(m); err != nil {
		panic(err)
	}
	return strings.TrimSuffix(b.String(), "\n")
}

// sameJson holds two values against each other; an empty list may be nil.
func sameJson(a, b api.Json) bool {
	return a.Kind == b.Kind && a.Int == b.Int && a.Text == b.Text &&
		slices.Equal(a.Keys, b.Keys) && slices.EqualFunc(a.List, b.List, sameJson)
}

// same holds two events against each other.
func same(a, b api.Event) bool {
	return a.Room == b.Room && a.Type == b.Type && a.Sender == b.Sender && a.IsState == b.IsState && a.Key == b.Key &&
		sameJson(a.Content, b.Content) && slices.Equal(a.Prev, b.Prev) && slices.Equal(a.Auth, b.Auth) &&
		a.Depth == b.Depth && a.Ts == b.Ts && a.Hash == b.Hash && slices.Equal(a.Sigs, b.Sigs)
}

// refused holds all calls to an error of an event.
func refused(t *testing.T, what string, e api.Event, want api.Errno) {
	t.Helper()
	if err := Shape(e); err != want {
		t.Errorf("%s: Shape: %d, not %d", what, err, want)
	}
	if b, err := Encode(e); err != want || len(b) > 0 {
		t.Errorf("%s: Encode: %.80q, error %d, not %d", what, b, err, want)
	}
	if j := ToJson(e); want == api.ErrShape && !sameJson(j, api.Json{}) {
		t.Errorf("%s: ToJson: %+v", what, j)
	}
}

// taken holds all calls to an event that is well shaped.
func taken(t *testing.T, what string, e api.Event) {
	t.Helper()
	if err := Shape(e); err != api.OK {
		t.Errorf("%s: Shape: %d", what, err)
	}
	b, err := Encode(e)
	if string(b) != model(e) || err != api.OK {
		t.Errorf("%s: Encode: %s, error %d, not %s", what, b, err, model(e))
	}
	again, err := Decode(b)
	if err != api.OK {
		t.Errorf("%s: Decode: error %d", what, err)
	}
	sorted := e
	sorted.Content = arranged(e.Content)
	if !same(again, sorted) {
		t.Errorf("%s: Decode: %+v, not %+v", what, again, sorted)
	}
	if got, err := FromJson(ToJson(e)); !same(got, sorted) || err != api.OK {
		t.Errorf("%s: FromJson: %+v, error %d, not %+v", what, got, err, sorted)
	}
}

// arranged tells a value with the keys of its maps in order.
func arranged(j api.Json) api.Json {
	at := map[string]api.Json{}
	out := api.Json{Kind: j.Kind, Int: j.Int, Text: j.Text, Keys: slices.Sorted(slices.Values(j.Keys))}
	for i, v := range j.List {
		if j.Kind == api.JMap {
			at[j.Keys[i]] = arranged(v)
		} else {
			out.List = append(out.List, arranged(v))
		}
	}
	for _, k := range out.Keys {
		out.List = append(out.List, at[k])
	}
	return out
}
