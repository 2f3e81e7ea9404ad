package seal

import (
	"testing"

	"agora/api"
)

// parts tells events that differ from full in one thing each, all of them well shaped: rest is what redaction leaves, body what it does not.
func parts() (rest, body map[string]api.Event) {
	rest, body = map[string]api.Event{}, map[string]api.Event{}
	put := func(m map[string]api.Event, what string, change func(e *api.Event)) {
		e := full()
		change(&e)
		m[what] = e
	}
	put(rest, "room", func(e *api.Event) { e.Room = "!r:s2" })
	put(rest, "room's local name", func(e *api.Event) { e.Room = "!q:s1" })
	put(rest, "type", func(e *api.Event) { e.Type = api.TMember + "s" })
	put(rest, "sender", func(e *api.Event) { e.Sender = "@bob:s2" })
	put(rest, "key", func(e *api.Event) { e.Key = "@bob:s2" })
	put(rest, "no key", func(e *api.Event) { e.Key = "" })
	put(rest, "no state", func(e *api.Event) { e.IsState, e.Key = false, "" })
	put(rest, "membership", func(e *api.Event) { e.Content.List[1] = text("join") })
	put(rest, "membership's kind", func(e *api.Event) { e.Content.List[1] = list(text("invite")) })
	put(rest, "no membership", func(e *api.Event) { e.Content = table(e.Content.Keys[:1], e.Content.List[:1]...) })
	put(rest, "prev's order", func(e *api.Event) { e.Prev = []string{e.Prev[1], e.Prev[0]} })
	put(rest, "fewer prev", func(e *api.Event) { e.Prev = e.Prev[:1] })
	put(rest, "no prev", func(e *api.Event) { e.Prev = nil })
	put(rest, "more auth", func(e *api.Event) { e.Auth = names(6)[2:] })
	put(rest, "no auth", func(e *api.Event) { e.Auth = nil })
	put(rest, "prev as auth", func(e *api.Event) { e.Prev, e.Auth = e.Auth, e.Prev })
	put(rest, "depth", func(e *api.Event) { e.Depth++ })
	put(rest, "ts", func(e *api.Event) { e.Ts-- })
	put(body, "reason", func(e *api.Event) { e.Content.List[0] = text("x") })
	put(body, "within reason", func(e *api.Event) { e.Content.List[0] = table([]string{"z", "y"}, number(-1), number(0)) })
	put(body, "no reason", func(e *api.Event) { e.Content = table(e.Content.Keys[1:], e.Content.List[1:]...) })
	put(body, "another key", func(e *api.Event) { e.Content.Keys = []string{"reasons", "membership"} })
	put(body, "one key more", func(e *api.Event) {
		e.Content.Keys, e.Content.List = append(e.Content.Keys, "creator"), append(e.Content.List, null())
	})
	return rest, body
}

// borne tells an event with all sorts of digests and signatures.
func borne(e api.Event) []api.Event {
	var l []api.Event
	for _, h := range []string{"", letters(0), letters(1), letters(1 << 60)} {
		for _, sigs := range [][]api.Sig{nil, {sig("s1", letters(1))}, {sig("s2", letters(1))}, {sig("a", letters(3)), sig("b", letters(2)), sig("s2", letters(2)), sig("z.z", letters(0))}} {
			e.Hash, e.Sigs = h, sigs
			l = append(l, e)
		}
	}
	return l
}

// TestHashByHand (7.1): the digest of the bytes that the chapter says, in which hash and sigs are empty.
func TestHashByHand(t *testing.T) {
	o := mustTable(t)
	first := o.Digest([]byte(`{"auth":[],"content":{"body":"hello"},"depth":0,"hash":"","prev":[],"room":"!r:s1","sender":"@ann:s1","sigs":{},"ts":0,"type":"m.room.message"}`))
	second := o.Digest([]byte(`{"auth":["$AAAAAAAAAAM","$AAAAAAAAAAQ","$AAAAAAAAAAU"],"content":{"membership":"invite","reason":{"y":null,"z":-1}},"depth":7,"hash":"","key":"@bob:s3","prev":["$AAAAAAAAAAE","$AAAAAAAAAAI"],"room":"!r:s1","sender":"@ann:s2","sigs":{},"ts":99,"type":"m.room.member"}`))
	for _, e := range borne(full()) {
		if h := mustHash(t, o, e); h != second {
			t.Errorf("%+v: %s, not %s", e, h, second)
		}
	}
	for _, e := range borne(hello()) {
		if h := mustHash(t, o, e); h != first {
			t.Errorf("%+v: %s, not %s", e, h, first)
		}
	}
	counts(t, "both", o, 2, 0)
}

// TestNameByHand (7.1): $ and the digest of the redaction's bytes, in which sigs are empty, but hash is not.
func TestNameByHand(t *testing.T) {
	o := mustTable(t)
	e := hello()
	e.Hash, e.Sigs = letters(77), []api.Sig{sig("s1", letters(5))}
	first := o.Digest([]byte(`{"auth":[],"content":{},"depth":0,"hash":"AAAAAAAAAE0","prev":[],"room":"!r:s1","sender":"@ann:s1","sigs":{},"ts":0,"type":"m.room.message"}`))
	if n := mustName(t, o, e); n != "$"+first {
		t.Errorf("%s, not %s", n, first)
	}
	e = full()
	second := o.Digest([]byte(`{"auth":["$AAAAAAAAAAM","$AAAAAAAAAAQ","$AAAAAAAAAAU"],"content":{"membership":"invite"},"depth":7,"hash":"","key":"@bob:s3","prev":["$AAAAAAAAAAE","$AAAAAAAAAAI"],"room":"!r:s1","sender":"@ann:s2","sigs":{},"ts":99,"type":"m.room.member"}`))
	if n := mustName(t, o, e); n != "$"+second {
		t.Errorf("%s, not %s", n, second)
	}
	counts(t, "both", o, 2, 0)
}

// TestInARow (7.1): several events one behind the other at one table have the numbers of their texts.
func TestInARow(t *testing.T) {
	o := mustTable(t)
	n := uint64(0)
	for _, e := range several(t) {
		n++
		if h := mustHash(t, o, e); h != letters(n) {
			t.Errorf("%+v: %s, not %s", e, h, letters(n))
		}
		e.Hash = letters(n)
		n++
		if name := mustName(t, o, e); name != "$"+letters(n) {
			t.Errorf("%+v: %s, not %s", e, name, letters(n))
		}
	}
	counts(t, "all", o, int(n), 0)
	for _, e := range several(t) {
		mustHash(t, o, e)
	}
	counts(t, "all again", o, int(n), 0)
}

// TestHashHangsOn (7.1): all but digest and signatures changes the contents; the order of a content does not.
func TestHashHangsOn(t *testing.T) {
	o := mustTable(t)
	seen := map[string]string{mustHash(t, o, full()): "full"}
	rest, body := parts()
	for _, m := range []map[string]api.Event{rest, body} {
		for what, e := range m {
			h := mustHash(t, o, e)
			if seen[h] != "" {
				t.Errorf("%s and %s have one hash", what, seen[h])
			}
			seen[h] = what
			e.Content = backwards(e.Content)
			if again := mustHash(t, o, e); again != h {
				t.Errorf("%s: %s backwards, not %s", what, again, h)
			}
		}
	}
	counts(t, "all", o, len(seen), 0)
}

// TestNameHangsOn (7.1): what redaction leaves changes the name, the digest, too; what it does not leave, and signatures, do not.
func TestNameHangsOn(t *testing.T) {
	o := mustTable(t)
	name := mustName(t, o, full())
	seen := map[string]string{name: "full"}
	rest, body := parts()
	for what, e := range rest {
		n := mustName(t, o, e)
		if seen[n] != "" {
			t.Errorf("%s and %s have one name", what, seen[n])
		}
		seen[n] = what
	}
	for what, e := range body {
		if n := mustName(t, o, e); n != name {
			t.Errorf("%s: %s, not %s", what, n, name)
		}
	}
	byHash := map[string]string{}
	for _, e := range borne(full()) {
		n := mustName(t, o, e)
		if byHash[e.Hash] == "" && e.Hash != "" && seen[n] != "" {
			t.Errorf("%+v has the name of %s", e, seen[n])
		}
		if byHash[e.Hash] != "" && byHash[e.Hash] != n {
			t.Errorf("%+v: signatures change the name", e)
		}
		byHash[e.Hash], seen[n] = n, "hash "+e.Hash
	}
	if byHash[""] != name || len(byHash) != 4 {
		t.Errorf("%v, %s", byHash, name)
	}
}

// TestAgainstGo (7.1): digests and names are those of bytes that Go's own JSON writer tells.
func TestAgainstGo(t *testing.T) {
	o, model := mustTable(t), mustTable(t)
	for _, one := range several(t) {
		for _, e := range borne(one) {
			if got, want := mustHash(t, o, e), model.Digest(goContents(e)); got != want {
				t.Errorf("%+v: hash %s, not %s", e, got, want)
			}
			if got, want := mustName(t, o, e), "$"+model.Digest(goFace(e)); got != want {
				t.Errorf("%+v: name %s, not %s", e, got, want)
			}
		}
	}
	counts(t, "all", o, model.Texts(), 0)
}

// TestLongest (7.1): an event of just as many bytes as may be is digested and named; one byte more is ErrLong.
func TestLongest(t *testing.T) {
	o, model := mustTable(t), mustTable(t)
	for _, key := range []string{"reason", "membership"} {
		for _, bears := range borne(full()) {
			e := long(t, bears, key, api.MaxBytes)
			if got, want := mustHash(t, o, e), model.Digest(goContents(e)); got != want {
				t.Errorf("%s: hash %s, not %s", key, got, want)
			}
			if got, want := mustName(t, o, e), "$"+model.Digest(goFace(e)); got != want {
				t.Errorf("%s: name %s, not %s", key, got, want)
			}
			for _, n := range []int{api.MaxBytes + 1, 2 * api.MaxBytes} {
				e = long(t, bears, key, n)
				if h, err := Hash(o, e); err != api.ErrLong || h != "" {
					t.Errorf("%s, %d bytes: hash %q, error %d", key, n, h, err)
				}
				if name, err := Name(o, e); err != api.ErrLong || name != "" {
					t.Errorf("%s, %d bytes: name %q, error %d", key, n, name, err)
				}
			}
		}
	}
	counts(t, "all", o, model.Texts(), 0)
}

// TestWrongEvents (7.1, 7.2): all calls tell Shape's error of what is no event, whatever the table and the server are.
func TestWrongEvents(t *testing.T) {
	for what, e := range wrong() {
		for _, o := range tables(t) {
			texts := o.Texts()
			if h, err := Hash(o, e); err != api.ErrShape || h != "" {
				t.Errorf("%s: hash %q, error %d", what, h, err)
			}
			if n, err := Name(o, e); err != api.ErrShape || n != "" {
				t.Errorf("%s: name %q, error %d", what, n, err)
			}
			for _, server := range []string{"s2", "s9", "", "S"} {
				refused(t, what, o, e, server, api.ErrShape)
			}
			unchecked(t, what, o, e, api.ErrShape)
			counts(t, what, o, texts, o.Tokens())
		}
	}
}
