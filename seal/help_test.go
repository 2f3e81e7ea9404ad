package seal

import (
	"bytes"
	"encoding/base64"
	"encoding/binary"
	"encoding/json"
	"slices"
	"strings"
	"testing"

	"agora/api"
	"agora/canon"
	"agora/event"
	"agora/oracle"
)

// letters tells the eleven letters of a number, by Go's own base64.
func letters(n uint64) string {
	return base64.RawStdEncoding.EncodeToString(binary.BigEndian.AppendUint64(nil, n))
}

// names tells so many events' names.
func names(n int) []string {
	var l []string
	for i := range n {
		l = append(l, "$"+letters(uint64(i+1)))
	}
	return l
}

func sig(server, token string) api.Sig { return api.Sig{Server: server, Token: token} }

func null() api.Json { return api.Json{Kind: api.JNull} }

func number(n int64) api.Json { return api.Json{Kind: api.JInt, Int: n} }

func text(s string) api.Json { return api.Json{Kind: api.JText, Text: s} }

func list(l ...api.Json) api.Json { return api.Json{Kind: api.JList, List: l} }

// table makes a map of keys and as many values.
func table(keys []string, l ...api.Json) api.Json {
	return api.Json{Kind: api.JMap, Keys: keys, List: l}
}

// value tells what a text of JSON says, in order.
func value(t *testing.T, s string) api.Json {
	t.Helper()
	j, err, at := canon.Decode([]byte(s))
	if err != api.OK {
		t.Fatalf("%s: error %d at %d", s, err, at)
	}
	return j
}

// backwards tells a value with all its maps in the opposite order.
func backwards(j api.Json) api.Json {
	var l []api.Json
	for _, v := range j.List {
		l = append(l, backwards(v))
	}
	j.List = l
	if j.Kind == api.JMap {
		j.Keys = slices.Clone(j.Keys)
		slices.Reverse(j.Keys)
		slices.Reverse(j.List)
	}
	return j
}

// plain tells a message that has as little as may be.
func plain() api.Event {
	return api.Event{Room: "!r:s1", Type: api.TMessage, Sender: "@ann:s1", Content: table(nil)}
}

// hello tells a message with a body.
func hello() api.Event {
	e := plain()
	e.Content = table([]string{"body"}, text("hello"))
	return e
}

// full tells a state's event that has something of everything, neither digested nor signed, its content not in order.
func full() api.Event {
	return api.Event{
		Room: "!r:s1", Type: api.TMember, Sender: "@ann:s2", IsState: true, Key: "@bob:s3",
		Content: table([]string{"reason", "membership"}, table([]string{"z", "y"}, number(-1), null()), text("invite")),
		Prev:    names(2), Auth: names(5)[2:], Depth: 7, Ts: 99,
	}
}

// several tells events of several types, by users of several servers.
func several(t *testing.T) []api.Event {
	t.Helper()
	l := []api.Event{plain(), hello(), full()}
	for _, c := range []struct{ kind, sender, key, content string }{
		{api.TCreate, "@ann:s1", "", `{"creator":"@ann:s1","room_version":"1"}`},
		{api.TMember, "@bob:s2", "@bob:s2", `{"displayname":"Bob","membership":"join"}`},
		{api.TPower, "@ann:s1", "", `{"ban":50,"notifications":{"room":1},"users":{"@ann:s1":100,"@bob:s2":0}}`},
		{api.TRules, "@cy:s3", "", `{"allow":[],"join_rule":"public"}`},
		{api.TName, "@cy:s3", "", `{"name":"é \"\\\n"}`},
		{api.TRedact, "@bob:s2", "-", `{"reason":"x","redacts":"$AAAAAAAAAAE"}`},
		{api.TDummy, "@bob:s2", "-", `{}`},
		{"m.x", "@a.b_c-1:s-4.org", "-", `{"x":[1,{"z":null,"y":true}]}`},
	} {
		e := api.Event{Room: "!r:s1", Type: c.kind, Sender: c.sender, Content: value(t, c.content), Prev: names(1), Auth: names(3), Depth: 3, Ts: 4}
		if c.key != "-" {
			e.IsState, e.Key = true, c.key
		}
		l = append(l, e)
	}
	return l
}

// homes are the servers of the users above, and one more.
func homes() []string { return []string{"s1", "s2", "s3", "s-4.org", "s5"} }

func mustTable(t *testing.T, servers ...string) *oracle.Table {
	t.Helper()
	o, err := oracle.New(servers)
	if err != api.OK {
		t.Fatalf("%q: error %d", servers, err)
	}
	return o
}

func mustSeal(t *testing.T, o *oracle.Table, e api.Event, server string) api.Event {
	t.Helper()
	s, err := Seal(o, e, server)
	if err != api.OK {
		t.Fatalf("%s by %.80q: error %d", show(e), server, err)
	}
	return s
}

func mustName(t *testing.T, o *oracle.Table, e api.Event) string {
	t.Helper()
	n, err := Name(o, e)
	if err != api.OK {
		t.Fatalf("%s: error %d", show(e), err)
	}
	return n
}

func mustHash(t *testing.T, o *oracle.Table, e api.Event) string {
	t.Helper()
	h, err := Hash(o, e)
	if err != api.OK {
		t.Fatalf("%s: error %d", show(e), err)
	}
	return h
}

// sameJson holds two values against each other, order and all; an empty list may be nil.
func sameJson(a, b api.Json) bool {
	return a.Kind == b.Kind && a.Int == b.Int && a.Text == b.Text &&
		slices.Equal(a.Keys, b.Keys) && slices.EqualFunc(a.List, b.List, sameJson)
}

// same holds two events against each other.
func same(a, b api.Event) bool {
	return a.Room == b.Room && a.Type == b.Type && a.Sender == b.Sender && a.IsState == b.IsState && a.Key == b.Key &&
		sameJson(a.Content, b.Content) && slices.Equal(a.Prev, b.Prev) && slices.Equal(a.Auth, b.Auth) &&
		a.Depth == b.Depth && a.Ts == b.Ts && a.Hash == b.Hash && slices.Equal(a.Sigs, b.Sigs)
}

// counts holds a table to so many texts and tokens.
func counts(t *testing.T, what string, o *oracle.Table, texts, tokens int) {
	t.Helper()
	if o.Texts() != texts || o.Tokens() != tokens {
		t.Errorf("%.80q: %d texts and %d tokens, not %d and %d", what, o.Texts(), o.Tokens(), texts, tokens)
	}
}

// refused holds Seal to an error that changes nothing.
func refused(t *testing.T, what string, o *oracle.Table, e api.Event, server string, want api.Errno) {
	t.Helper()
	tokens := o.Tokens()
	if s, err := Seal(o, e, server); err != want || !same(s, api.Event{}) {
		t.Errorf("%.80q: Seal: %s, error %d, not %d", what, show(s), err, want)
	}
	if o.Tokens() != tokens {
		t.Errorf("%.80q: %d tokens became %d", what, tokens, o.Tokens())
	}
}

// checked holds Check to an event, and whether it is whole.
func checked(t *testing.T, what string, o *oracle.Table, e, want api.Event, whole bool) {
	t.Helper()
	if got, now, err := Check(o, e); err != api.OK || now != whole || !same(got, want) {
		t.Errorf("%.80q: %s, whole %t, error %d, not %s, whole %t", what, show(got), now, err, show(want), whole)
	}
}

// unchecked holds Check to an error that changes nothing.
func unchecked(t *testing.T, what string, o *oracle.Table, e api.Event, want api.Errno) {
	t.Helper()
	tokens := o.Tokens()
	if got, whole, err := Check(o, e); err != want || whole || !same(got, api.Event{}) {
		t.Errorf("%.80q: %s, whole %t, error %d, not %d", what, show(got), whole, err, want)
	}
	if o.Tokens() != tokens {
		t.Errorf("%.80q: %d tokens became %d", what, tokens, o.Tokens())
	}
}

// ordered tells an event with its content in order, by Go's own sorting.
func ordered(e api.Event) api.Event {
	e.Content = arranged(e.Content)
	return e
}

// arranged tells a value with the keys of its maps in order.
func arranged(j api.Json) api.Json {
	at := map[string]api.Json{}
	out := api.Json{Kind: j.Kind, Int: j.Int, Text: j.Text, Keys: slices.Sorted(slices.Values(j.Keys))}
	for i, v := range j.List {
		if j.Kind == api.JMap {
			at[j.Keys[i]] = arranged(v)
		} else {
			out.List = append(out.List, arranged(v))
		}
	}
	for _, k := range out.Keys {
		out.List = append(out.List, at[k])
	}
	return out
}

// keepers are the types that keep keys, with these, by chapter 6.
func keepers() map[string][]string {
	return map[string][]string{
		api.TCreate: {"creator"},
		api.TMember: {"membership"},
		api.TPower:  {"ban", "events", "events_default", "invite", "kick", "redact", "state_default", "users", "users_default"},
		api.TRules:  {"join_rule"},
	}
}

// hidden tells what chapter 6 leaves of an event.
func hidden(e api.Event) api.Event {
	all := arranged(e.Content)
	e.Content = table(nil)
	for i, key := range all.Keys {
		if slices.Contains(keepers()[e.Type], key) {
			e.Content.Keys, e.Content.List = append(e.Content.Keys, key), append(e.Content.List, all.List[i])
		}
	}
	return e
}

// goValue tells a value as Go's own JSON writer takes it.
func goValue(j api.Json) any {
	switch j.Kind {
	case api.JBool:
		return j.Int == 1
	case api.JInt:
		return j.Int
	case api.JText:
		return j.Text
	case api.JList:
		l := []any{}
		for _, v := range j.List {
			l = append(l, goValue(v))
		}
		return l
	case api.JMap:
		m := map[string]any{}
		for i, v := range j.List {
			m[j.Keys[i]] = goValue(v)
		}
		return m
	}
	return nil
}

// goBytes tells an event's bytes by Go's own JSON writer.
func goBytes(e api.Event) []byte {
	sigs := map[string]string{}
	for _, s := range e.Sigs {
		sigs[s.Server] = s.Token
	}
	m := map[string]any{
		"auth": append([]string{}, e.Auth...), "content": goValue(e.Content), "depth": e.Depth, "hash": e.Hash,
		"prev": append([]string{}, e.Prev...), "room": e.Room, "sender": e.Sender, "sigs": sigs, "ts": e.Ts, "type": e.Type,
	}
	if e.IsState {
		m["key"] = e.Key
	}
	var b bytes.Buffer
	w := json.NewEncoder(&b)
	w.SetEscapeHTML(false)
	if err := w.Encode(m); err != nil {
		panic(err)
	}
	return bytes.TrimSuffix(b.Bytes(), []byte("\n"))
}

// show tells an event's bytes, as many as somebody reads.
func show(e api.Event) string {
	b := goBytes(e)
	return string(b[:min(len(b), 600)])
}

// goContents tells an event's contents by Go's own JSON writer.
func goContents(e api.Event) []byte {
	e.Hash, e.Sigs = "", nil
	return goBytes(e)
}

// goFace tells an event's face by Go's own JSON writer.
func goFace(e api.Event) []byte {
	e.Sigs = nil
	return goBytes(hidden(e))
}

// long tells an event of a type, with that key alone in its content, of just so many bytes; what it bears already counts.
func long(t *testing.T, e api.Event, key string, n int) api.Event {
	t.Helper()
	e.Content = table([]string{key}, text(""))
	e.Content.List[0].Text = strings.Repeat("a", n-len(goBytes(e)))
	if b := goBytes(e); len(b) != n {
		t.Fatal("not so many bytes:", len(b))
	}
	return e
}

// weight tells by how many bytes a digest and one signature of that server make an event longer.
func weight(server string) int {
	e := plain()
	bare := len(goBytes(e))
	e.Hash, e.Sigs = letters(1), []api.Sig{{Server: server, Token: letters(1)}}
	return len(goBytes(e)) - bare
}

// wrong tells events that are not well shaped, by what is wrong with them; what is only too long is not among them.
func wrong() map[string]api.Event {
	m := map[string]api.Event{"nothing": {}}
	put := func(what string, change func(e *api.Event)) {
		e := full()
		change(&e)
		m[what] = e
	}
	put("no room", func(e *api.Event) { e.Room = "r:s1" })
	put("no type", func(e *api.Event) { e.Type = "M" })
	put("no sender", func(e *api.Event) { e.Sender = "@ann" })
	put("a key without a state", func(e *api.Event) { e.IsState = false })
	put("a long key", func(e *api.Event) { e.Key = strings.Repeat("k", api.MaxKey+1) })
	put("a key that is no UTF-8", func(e *api.Event) { e.Key = "\xff" })
	put("a content that is no map", func(e *api.Event) { e.Content = list() })
	put("a content with a key twice", func(e *api.Event) { e.Content = table([]string{"a", "a"}, null(), null()) })
	put("a content that is too deep", func(e *api.Event) {
		j := null()
		for range api.MaxDepth - 2 {
			j = list(j)
		}
		e.Content = table([]string{"a"}, j)
		e.Content = table([]string{"a"}, e.Content)
	})
	put("a prev twice", func(e *api.Event) { e.Prev = []string{e.Prev[0], e.Prev[0]} })
	put("too many auth", func(e *api.Event) { e.Auth = names(api.MaxAuth + 1) })
	put("no event's name", func(e *api.Event) { e.Auth = []string{"$A"} })
	put("a depth below 0", func(e *api.Event) { e.Depth = -1 })
	put("a time too late", func(e *api.Event) { e.Ts = api.MaxInt + 1 })
	put("a hash that is none", func(e *api.Event) { e.Hash = "AAAAAAAAAAB" })
	put("sigs that fall", func(e *api.Event) { e.Sigs = []api.Sig{sig("s2", letters(1)), sig("s1", letters(1))} })
	put("a token that is none", func(e *api.Event) { e.Sigs = []api.Sig{sig("s2", "")} })
	put("no server's name", func(e *api.Event) { e.Sigs = []api.Sig{sig("S2", letters(1))} })
	for what, e := range m {
		if event.Shape(e) != api.ErrShape {
			panic(what)
		}
	}
	return m
}
