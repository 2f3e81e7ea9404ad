package event

import (
	"math/rand"
	"slices"
	"testing"

	"agora/api"
	"agora/canon"
)

// wantJson tells the JSON of full, by hand.
func wantJson() api.Json {
	return table([]string{"auth", "content", "depth", "hash", "key", "prev", "room", "sender", "sigs", "ts", "type"},
		list(text("$AAAAAAAAAAE"), text("$AAAAAAAAAAI"), text("$AAAAAAAAAAM")),
		table([]string{"a", "membership"}, table([]string{"y", "z"}, null(), number(-1)), text("invite")),
		number(7), text("AAAAAAAAAAU"), text("@bob:s3"),
		list(text("$AAAAAAAAAAE"), text("$AAAAAAAAAAI")),
		text("!r:s1"), text("@ann:s2"),
		table([]string{"s1", "s2"}, text("AAAAAAAAAAE"), text("AAAAAAAAAAI")),
		number(99), text("m.room.member"))
}

// without tells a map without one of its names.
func without(j api.Json, name string) api.Json {
	at := slices.Index(j.Keys, name)
	j.Keys = slices.Delete(slices.Clone(j.Keys), at, at+1)
	j.List = slices.Delete(slices.Clone(j.List), at, at+1)
	return j
}

// with tells a map with a name more, or with another value of one.
func with(j api.Json, name string, v api.Json) api.Json {
	j.Keys, j.List = slices.Clone(j.Keys), slices.Clone(j.List)
	if at := slices.Index(j.Keys, name); at >= 0 {
		j.List[at] = v
		return j
	}
	j.Keys, j.List = append(j.Keys, name), append(j.List, v)
	return j
}

// of tells the value of a name.
func of(j api.Json, name string) api.Json { return j.List[slices.Index(j.Keys, name)] }

// shuffled tells the same value with the keys of all its maps in another order.
func shuffled(r *rand.Rand, j api.Json) api.Json {
	j.Keys, j.List = slices.Clone(j.Keys), slices.Clone(j.List)
	for i := range j.List {
		j.List[i] = shuffled(r, j.List[i])
	}
	if j.Kind == api.JMap {
		r.Shuffle(len(j.Keys), func(a, b int) {
			j.Keys[a], j.Keys[b] = j.Keys[b], j.Keys[a]
			j.List[a], j.List[b] = j.List[b], j.List[a]
		})
	}
	return j
}

// noEvent holds FromJson to an error of a value.
func noEvent(t *testing.T, what string, j api.Json, want api.Errno) {
	t.Helper()
	if e, err := FromJson(j); err != want || !same(e, api.Event{}) {
		t.Errorf("%s: FromJson: %+v, error %d, not %d", what, e, err, want)
	}
}

// TestToJson (5.2): names, kinds and order.
func TestToJson(t *testing.T) {
	if got := ToJson(full()); !sameJson(got, wantJson()) {
		t.Errorf("full: %+v", got)
	}
	e := full()
	e.IsState, e.Key = false, ""
	if got := ToJson(e); !sameJson(got, without(wantJson(), "key")) {
		t.Errorf("no state: %+v", got)
	}
	e.IsState = true
	if got := ToJson(e); !sameJson(got, with(wantJson(), "key", text(""))) {
		t.Errorf("an empty key: %+v", got)
	}
	want := table([]string{"auth", "content", "depth", "hash", "prev", "room", "sender", "sigs", "ts", "type"},
		list(), table(nil), number(0), text(""), list(), text("!r:s1"), text("@ann:s1"), table(nil), number(0), text("m.room.message"))
	if got := ToJson(plain()); !sameJson(got, want) {
		t.Errorf("plain: %+v", got)
	}
}

// TestToJsonInOrder (5.2): all that is told is good and in order, rows as they stand.
func TestToJsonInOrder(t *testing.T) {
	for _, c := range rightOnes() {
		for _, e := range []api.Event{plain(), full()} {
			c.do(&e)
			j := ToJson(e)
			if !canon.Good(j) || !sameJson(j, canon.Order(j)) || !sameJson(j, arranged(j)) {
				t.Errorf("%s: %+v", c.what, j)
			}
			for i, name := range e.Prev {
				if of(j, "prev").List[i].Text != name {
					t.Errorf("%s: prev %+v", c.what, of(j, "prev"))
				}
			}
			for i, name := range e.Auth {
				if of(j, "auth").List[i].Text != name {
					t.Errorf("%s: auth %+v", c.what, of(j, "auth"))
				}
			}
		}
	}
}

// TestToJsonLong (5.2): an event that is only too long has a JSON; it is not taken back.
func TestToJsonLong(t *testing.T) {
	for _, n := range []int{api.MaxBytes, api.MaxBytes + 1, 1 << 20} {
		e := long(t, n)
		want := with(wantJson(), "content", e.Content)
		if got := ToJson(e); !sameJson(got, want) {
			t.Errorf("%d bytes: %.300v", n, got)
		}
		if n > api.MaxBytes {
			noEvent(t, "too long", ToJson(e), api.ErrLong)
		}
	}
}

// TestFromJson (5.3): in whatever order, the same event.
func TestFromJson(t *testing.T) {
	r := rand.New(rand.NewSource(53))
	want := full()
	want.Content = arranged(want.Content)
	for range 200 {
		if got, err := FromJson(shuffled(r, wantJson())); err != api.OK || !same(got, want) {
			t.Fatalf("%+v, error %d", got, err)
		}
	}
	want.IsState, want.Key = false, ""
	if got, err := FromJson(without(wantJson(), "key")); err != api.OK || !same(got, want) {
		t.Errorf("no state: %+v, error %d", got, err)
	}
	want.IsState = true
	if got, err := FromJson(with(wantJson(), "key", text(""))); err != api.OK || !same(got, want) {
		t.Errorf("an empty key: %+v, error %d", got, err)
	}
}

// TestFromJsonSigs (5.3): signatures rise by their servers, in whatever order the map has them.
func TestFromJsonSigs(t *testing.T) {
	sigs := table([]string{"s2", "b", "s10", "s1"}, text(letters(1)), text(letters(2)), text(letters(3)), text(letters(4)))
	want := []api.Sig{{Server: "b", Token: letters(2)}, {Server: "s1", Token: letters(4)}, {Server: "s10", Token: letters(3)}, {Server: "s2", Token: letters(1)}}
	if e, err := FromJson(with(wantJson(), "sigs", sigs)); err != api.OK || !slices.Equal(e.Sigs, want) {
		t.Errorf("%+v, error %d", e.Sigs, err)
	}
}

// TestNames (5.3): a name too few, or too many.
func TestNames(t *testing.T) {
	whole := wantJson()
	for _, name := range whole.Keys {
		if name != "key" {
			noEvent(t, "without "+name, without(whole, name), api.ErrShape)
			noEvent(t, name+" under another name", with(without(whole, name), name+"s", of(whole, name)), api.ErrShape)
			noEvent(t, "no "+name, with(whole, name, null()), api.ErrShape)
		}
		noEvent(t, "without "+name+", and another", with(without(whole, name), "other", null()), api.ErrShape)
	}
	for _, name := range []string{"", "x", "Key", "keys", "state", "isstate", "auth ", "origin", "zz", "\x00", "aa"} {
		for _, v := range []api.Json{null(), text(""), list(), table(nil), number(0)} {
			noEvent(t, "a name more: "+name, with(whole, name, v), api.ErrShape)
			noEvent(t, "a name more, but no key: "+name, with(without(whole, "key"), name, v), api.ErrShape)
		}
	}
	noEvent(t, "no names", table(nil), api.ErrShape)
}

// TestKinds (5.3): each value of each other kind.
func TestKinds(t *testing.T) {
	whole := wantJson()
	any := []api.Json{null(), truth(0), truth(1), number(0), number(1), text(""), text("!r:s1"), text(letters(1)), list(), list(text("$" + letters(1))), table(nil), table([]string{"s1"}, text(letters(1)))}
	for _, name := range whole.Keys {
		for _, v := range any {
			if v.Kind != of(whole, name).Kind {
				noEvent(t, name+" of another kind", with(whole, name, v), api.ErrShape)
			}
		}
	}
	for _, v := range any {
		if v.Kind != api.JText {
			noEvent(t, "a name of another kind", with(whole, "prev", list(text("$"+letters(1)), v)), api.ErrShape)
			noEvent(t, "a name of another kind", with(whole, "auth", list(v, text("$"+letters(1)))), api.ErrShape)
			noEvent(t, "a token of another kind", with(whole, "sigs", table([]string{"s1", "s2"}, text(letters(1)), v)), api.ErrShape)
			noEvent(t, "a token of another kind", with(whole, "sigs", table([]string{"s2", "s1"}, text(letters(1)), v)), api.ErrShape)
		}
		noEvent(t, "no map at all", v, api.ErrShape)
	}
	noEvent(t, "an event in a list", list(whole), api.ErrShape)
	noEvent(t, "an event's values alone", list(whole.List...), api.ErrShape)
}

// TestFromJsonShape (5.3): names and kinds are right, but the event is not well shaped.
func TestFromJsonShape(t *testing.T) {
	for _, c := range wrongOnes() {
		for _, e := range []api.Event{plain(), full()} {
			c.do(&e)
			if rises := slices.IsSortedFunc(e.Sigs, func(a, b api.Sig) int { return cmpText(a.Server, b.Server) }); !rises || !e.IsState && e.Key != "" {
				continue // the JSON of this one says another event
			}
			noEvent(t, c.what, told(e), api.ErrShape)
		}
	}
	e := full()
	e.Sigs = sigsOf("b", "a")
	want := []api.Sig{e.Sigs[1], e.Sigs[0]}
	if got, err := FromJson(told(e)); err != api.OK || !slices.Equal(got.Sigs, want) {
		t.Errorf("sigs in another order: %+v, error %d", got.Sigs, err)
	}
}

func cmpText(a, b string) int {
	if a < b {
		return -1
	}
	return 1
}

// TestNoValue (5.3): what is no value, or not a good one, is no event's JSON.
func TestNoValue(t *testing.T) {
	whole := wantJson()
	twice := whole
	twice.Keys, twice.List = append(slices.Clone(whole.Keys), "room"), append(slices.Clone(whole.List), text("!r:s1"))
	noEvent(t, "a name twice", twice, api.ErrShape)
	short, more := whole, whole
	short.List = whole.List[:len(whole.List)-1]
	more.Keys = whole.Keys[:len(whole.Keys)-1]
	noEvent(t, "a value too few", short, api.ErrShape)
	noEvent(t, "a value too many", more, api.ErrShape)
	for _, j := range []api.Json{{}, {Kind: -1}, {Kind: 6}, {Kind: 6, Keys: whole.Keys, List: whole.List}, {Kind: api.JMap, Int: 1, Keys: whole.Keys, List: whole.List}, {Kind: api.JMap, Text: "x", Keys: whole.Keys, List: whole.List}} {
		noEvent(t, "no value", j, api.ErrShape)
	}
	noEvent(t, "a text that has a number", with(whole, "hash", api.Json{Kind: api.JText, Int: 1, Text: letters(1)}), api.ErrShape)
	noEvent(t, "a number that has a text", with(whole, "depth", api.Json{Kind: api.JInt, Text: "a"}), api.ErrShape)
	noEvent(t, "a token that has keys", with(whole, "sigs", table([]string{"s1"}, api.Json{Kind: api.JText, Text: letters(1), Keys: []string{"a"}})), api.ErrShape)
	noEvent(t, "a list with keys", with(whole, "prev", api.Json{Kind: api.JList, Keys: []string{"a"}, List: []api.Json{text("$" + letters(1))}}), api.ErrShape)
	noEvent(t, "sigs of one server twice", with(whole, "sigs", table([]string{"s1", "s1"}, text(letters(1)), text(letters(1)))), api.ErrShape)
	noEvent(t, "too deep", with(whole, "content", nested(api.MaxDepth)), api.ErrShape)
}

// TestFromJsonLong (5.3): ErrLong only of what is well shaped but for its bytes.
func TestFromJsonLong(t *testing.T) {
	if _, err := FromJson(told(long(t, api.MaxBytes))); err != api.OK {
		t.Error("MaxBytes bytes:", err)
	}
	over := told(long(t, api.MaxBytes+1))
	noEvent(t, "a byte more", over, api.ErrLong)
	noEvent(t, "a byte more, and a name", with(over, "x", null()), api.ErrShape)
	noEvent(t, "a byte more, and a name too few", without(over, "ts"), api.ErrShape)
	noEvent(t, "a byte more, and a wrong room", with(over, "room", text("r")), api.ErrShape)
	noEvent(t, "a byte more, and another kind", with(over, "ts", text("1")), api.ErrShape)
}
