package room

import (
	"math/rand"
	"slices"
	"strings"
	"testing"

	"agora/api"
	"agora/event"
)

// TestNew (14.1): a room without events, and each one its own.
func TestNew(t *testing.T) {
	for _, id := range []string{here, "!r:s", "!0:0", "!a_b.c-d:x.y-z", "!" + strings.Repeat("a", api.MaxLocal) + ":" + strings.Repeat("s", api.MaxServer)} {
		r, err := New(id)
		if err != api.OK || r.Id() != id || r.Len() != 0 {
			t.Errorf("%s: error %d, %s, %d", id, err, r.Id(), r.Len())
		}
	}
	h, other := empty(t), empty(t)
	h.put(create(ann))
	if other.Len() != 0 {
		t.Error("the other room's event")
	}
}

// TestNewWrong (14.1): ErrArg of what is no room's name, and no room.
func TestNewWrong(t *testing.T) {
	for _, id := range []string{
		"", "!", ":", "r", "r:s1", "@ann:s1", "!r", "!:s1", "!r:", "!R:s1", "!r:S1", "!r:s_1", "!!r:s1", "!r:s1 ", " !r:s1", "!r:s:1", "$AAAAAAAAAAE", "s1", "!r:s\xff", "!é:s1",
		"!" + strings.Repeat("a", api.MaxLocal+1) + ":s1", "!r:" + strings.Repeat("s", api.MaxServer+1),
	} {
		if r, err := New(id); r != nil || err != api.ErrArg {
			t.Errorf("%q: error %d, %v", id, err, r)
		}
	}
}

// TestExample (14, Examples): a create event, and its sender's join: two events, one head, a state of two spots. A message by somebody else: denied, and the head stays.
func TestExample(t *testing.T) {
	h := empty(t)
	if denied, err := h.Add(api.Known{Name: nameAt(0), Event: create(ann)}); denied || err != api.OK {
		t.Fatalf("denied %t, error %d", denied, err)
	}
	e := joined(ann)
	e.Prev, e.Auth, e.Depth = names(0), names(0), 1
	if denied, err := h.Add(api.Known{Name: nameAt(1), Event: e}); denied || err != api.OK {
		t.Fatalf("denied %t, error %d", denied, err)
	}
	two := []api.Spot{{Type: api.TCreate, At: 0}, {Type: api.TMember, Key: ann, At: 1}}
	if h.Len() != 2 {
		t.Errorf("%d events", h.Len())
	}
	is(t, "heads", h.Heads(), "1")
	equal(t, "state", h.State(), two)
	e = message(bob)
	e.Prev, e.Auth, e.Depth = names(1), names(0), 2
	if denied, err := h.Add(api.Known{Name: nameAt(2), Event: e}); !denied || err != api.OK {
		t.Fatalf("denied %t, error %d", denied, err)
	}
	is(t, "heads", h.Heads(), "1")
	equal(t, "state", h.State(), two)
}

// TestAdd (14.1): a place more, with the event as it was told, whatever kind it is of.
func TestAdd(t *testing.T) {
	h := forked(t)
	if h.Len() != 11 {
		t.Fatalf("%d events", h.Len())
	}
	for i := range h.Len() {
		k := h.Known(i)
		if at, ok := h.Place(k.Name); at != i || !ok || k.Name != nameAt(i) || h.Denied(i) {
			t.Errorf("place %d: %s at %d, %t, denied %t", i, k.Name, at, ok, h.Denied(i))
		}
	}
	// Whether an event is denied or not, it has its place.
	at, denied := h.add(with(h.draft(message(bob), 10), func(e *api.Event) { e.Depth = 1 }))
	if at != 11 || !denied || h.Len() != 12 {
		t.Errorf("place %d, denied %t", at, denied)
	}
	held(t, h.Room, modelOf(t, h.Room))
}

// TestAddKeepsAsTold (14.1, 14.3): keys that are not in order, signatures, a digest, names as they were told.
func TestAddKeepsAsTold(t *testing.T) {
	h := begun(t)
	e := h.draft(message(bob), 5)
	slices.Reverse(e.Auth)
	e.Content = api.Json{Kind: api.JMap, Keys: []string{"b", "a"}, List: []api.Json{{Kind: api.JInt, Int: 7}, {Kind: api.JList, List: []api.Json{{}, {Kind: api.JText, Text: "é"}}}}}
	e.Hash, e.Sigs = "AAAAAAAAAAE", []api.Sig{{Server: "s2", Token: "AAAAAAAAAAI"}, {Server: "s3", Token: "AAAAAAAAAAM"}}
	if _, denied := h.add(e); denied {
		t.Error("denied")
	}
	held(t, h.Room, modelOf(t, h.Room))
	got := h.Known(6).Event
	equal(t, "keys", got.Content.Keys, []string{"b", "a"})
	equal(t, "auth", got.Auth, []string{nameAt(4), nameAt(2), nameAt(0)})
	equal(t, "sigs", got.Sigs, e.Sigs)
	if got.Hash != e.Hash || got.Content.List[1].List[1].Text != "é" {
		t.Errorf("%+v", got)
	}
}

// long makes an event too long, by its bytes alone.
func long(e *api.Event) {
	e.Content.Keys = append([]string{"a"}, e.Content.Keys...)
	e.Content.List = append([]api.Json{{Kind: api.JText, Text: strings.Repeat("x", api.MaxBytes)}}, e.Content.List...)
}

// TestAddLong (14.1): an event that is only too long is taken, and judged as any other one.
func TestAddLong(t *testing.T) {
	h := begun(t)
	e := with(h.draft(title(bob, "x"), 5), long)
	if event.Shape(e) != api.ErrLong {
		t.Fatal("not too long")
	}
	at, denied := h.add(e)
	if at != 6 || denied {
		t.Errorf("place %d, denied %t", at, denied)
	}
	is(t, "heads", h.Heads(), "6")
	h.stands("state", h.State(), "0 1 2 3 4 5 6")
	h.bad(with(h.draft(member(cat, bob, "ban"), 6), long))
	h.put(message(bob), 6)
	begin := empty(t)
	if _, denied := begin.add(with(create(ann), long)); denied {
		t.Error("a long creation is denied")
	}
	is(t, "heads", begin.Heads(), "0")
}

// wrongShapes are ways in which an event is not well shaped, or is no event of the room.
func wrongShapes() map[string]func(e *api.Event) {
	return map[string]func(e *api.Event){
		"all of it":      func(e *api.Event) { *e = api.Event{} },
		"no room":        func(e *api.Event) { e.Room = "" },
		"room":           func(e *api.Event) { e.Room = "r:s1" },
		"another room":   func(e *api.Event) { e.Room = "!q:s1" },
		"another server": func(e *api.Event) { e.Room = "!r:s2" },
		"type":           func(e *api.Event) { e.Type = "A" },
		"sender":         func(e *api.Event) { e.Sender = "ann" },
		"key":            func(e *api.Event) { e.IsState, e.Key = false, "x" },
		"long key":       func(e *api.Event) { e.IsState, e.Key = true, strings.Repeat("k", api.MaxKey+1) },
		"content":        func(e *api.Event) { e.Content = api.Json{Kind: api.JList} },
		"no content":     func(e *api.Event) { e.Content = api.Json{} },
		"prev":           func(e *api.Event) { e.Prev = []string{"x"} },
		"prev twice":     func(e *api.Event) { e.Prev = names(5, 5) },
		"auth":           func(e *api.Event) { e.Auth = []string{""} },
		"auth twice":     func(e *api.Event) { e.Auth = names(0, 2, 4, 0) },
		"too many prev": func(e *api.Event) {
			e.Prev = nil
			for i := range api.MaxPrev + 1 {
				e.Prev = append(e.Prev, nameAt(i))
			}
		},
		"depth":      func(e *api.Event) { e.Depth = -1 },
		"high":       func(e *api.Event) { e.Depth = api.MaxHeight + 1 },
		"ts":         func(e *api.Event) { e.Ts = -1 },
		"hash":       func(e *api.Event) { e.Hash = "x" },
		"sigs":       func(e *api.Event) { e.Sigs = []api.Sig{{}} },
		"long, room": func(e *api.Event) { long(e); e.Room = "!q:s1" },
		"long, sigs": func(e *api.Event) { long(e); e.Sigs = []api.Sig{{}} },
	}
}

// wrongNames are no events' names.
func wrongNames() []string {
	return []string{"", "$", "x", "$x", "AAAAAAAAAAE", "$AAAAAAAAAAF", "$AAAAAAAAAA", "$AAAAAAAAAAEE", "$AAAAAAAAAA=", "$AAAAAAAAA-E", "@AAAAAAAAAAE", " $AAAAAAAAAAE", "$AAAAAAAAAAE ", ann, here}
}

// refused holds Add to an error, beside which there is nothing, and which changes nothing.
func (h *house) refused(what string, named string, e api.Event, want api.Errno) {
	h.t.Helper()
	was := look(h.Room)
	place, there := h.Place(named)
	denied, err := h.Add(api.Known{Name: named, Event: e})
	if denied || err != want {
		h.t.Errorf("%s: error %d, not %d; denied %t", what, err, want, denied)
	}
	unchanged(h.t, what, h.Room, was)
	if at, ok := h.Place(named); at != place || ok != there {
		h.t.Errorf("%s: %s has place %d, %t", what, named, at, ok)
	}
}

// TestAddWrongShape (14.1): ErrShape of what is no event of the room, or has no event's name.
func TestAddWrongShape(t *testing.T) {
	for _, h := range []*house{empty(t), begun(t)} {
		e := h.draft(message(bob), h.Heads()...)
		for what, do := range wrongShapes() {
			h.refused(what, nameAt(6), with(e, do), api.ErrShape)
		}
		for _, named := range wrongNames() {
			h.refused("name "+named, named, e, api.ErrShape)
		}
	}
}

// TestAddHave (14.1): ErrHave of a name that is there, of the same event or of another one, denied or not.
func TestAddHave(t *testing.T) {
	h := begun(t)
	h.bad(with(h.draft(message(bob), 5), func(e *api.Event) { e.Depth = 0 }))
	for i := range h.Len() {
		h.refused("the same", nameAt(i), h.Known(i).Event, api.ErrHave)
		h.refused("another one", nameAt(i), h.draft(title(bob, "x"), 5), api.ErrHave)
		h.refused("a creation", nameAt(i), create(ann), api.ErrHave)
	}
	// What is there is known by its name alone: the same event may come under another one.
	h.add(h.Known(5).Event)
}

// TestAddMissing (14.1): ErrMissing, where there is none of a name of Prev or Auth.
func TestAddMissing(t *testing.T) {
	h := begun(t)
	itself, none := nameAt(6), name(1)
	for what, do := range map[string]func(e *api.Event){
		"prev":              func(e *api.Event) { e.Prev = []string{none} },
		"prev behind":       func(e *api.Event) { e.Prev = []string{nameAt(5), none} },
		"prev ahead":        func(e *api.Event) { e.Prev = []string{none, nameAt(5)} },
		"auth":              func(e *api.Event) { e.Auth = []string{none} },
		"auth behind":       func(e *api.Event) { e.Auth = append(e.Auth, none) },
		"auth ahead":        func(e *api.Event) { e.Auth = append([]string{none}, e.Auth...) },
		"both":              func(e *api.Event) { e.Prev, e.Auth = []string{none}, []string{none} },
		"it follows itself": func(e *api.Event) { e.Prev = []string{itself} },
		"leans on itself":   func(e *api.Event) { e.Auth = append(e.Auth, itself) },
		"what comes next":   func(e *api.Event) { e.Prev = []string{nameAt(7)} },
		"denied, too":       func(e *api.Event) { e.Prev, e.Depth = []string{none}, 99 },
		"too long":          func(e *api.Event) { e.Prev = []string{none}; long(e) },
	} {
		h.refused(what, itself, with(h.draft(message(bob), 5), do), api.ErrMissing)
	}
	empty(t).refused("nothing is there", nameAt(1), with(joined(ann), func(e *api.Event) { e.Prev, e.Auth = names(0), names(0) }), api.ErrMissing)
	// What was missing may come, and then the event is taken.
	e := with(h.draft(message(bob), 5), func(e *api.Event) { e.Prev, e.Depth = []string{none}, 7 })
	h.refused("what comes later", itself, e, api.ErrMissing)
	if denied, err := h.Add(api.Known{Name: none, Event: h.draft(message(bob), 5)}); denied || err != api.OK {
		t.Fatalf("denied %t, error %d", denied, err)
	}
	if denied, err := h.Add(api.Known{Name: itself, Event: e}); denied || err != api.OK {
		t.Fatalf("denied %t, error %d", denied, err)
	}
	is(t, "heads", h.Heads(), "7")
}

// TestAddFirstError (14.1): of several errors ErrShape comes first, then ErrHave, then ErrMissing.
func TestAddFirstError(t *testing.T) {
	h := begun(t)
	e := h.draft(message(bob), 5)
	missing := func(e *api.Event) { e.Prev = []string{name(1)} }
	for what, do := range wrongShapes() {
		h.refused("there, "+what, nameAt(3), with(e, do), api.ErrShape)
		h.refused("no name, "+what, "", with(e, do), api.ErrShape)
		if !strings.Contains(what, "prev") {
			h.refused("missing, "+what, nameAt(6), with(e, missing, do), api.ErrShape)
		}
	}
	for _, named := range wrongNames() {
		h.refused("missing, no name "+named, named, with(e, missing), api.ErrShape)
	}
	h.refused("there and missing", nameAt(3), with(e, missing), api.ErrHave)
	h.refused("there and following itself", nameAt(3), with(e, func(e *api.Event) { e.Prev = names(3) }), api.ErrHave)
}

// TestBareRooms (14, R1): a nil room, and one that New did not make: without events; Add: ErrArg, whatever comes.
func TestBareRooms(t *testing.T) {
	for _, r := range bare() {
		for _, k := range []api.Known{{}, {Name: nameAt(0), Event: create(ann)}, {Name: "x"}, {Name: nameAt(1), Event: message(bob)}} {
			if denied, err := r.Add(k); denied || err != api.ErrArg {
				t.Errorf("denied %t, error %d", denied, err)
			}
		}
		if r.Id() != "" || r.Len() != 0 {
			t.Errorf("%q, %d", r.Id(), r.Len())
		}
		for _, i := range append(nowhere(0), 0, 1, 2) {
			nothingAt(t, r, i)
		}
		for _, n := range []string{"", "x", nameAt(0)} {
			if at, ok := r.Place(n); at != 0 || ok {
				t.Errorf("%q: %d, %t", n, at, ok)
			}
		}
		for _, l := range [][]int{nil, {}, {0}, {-1, 0, 1}} {
			equal(t, "come", r.Come(l), nil)
		}
		equal(t, "heads", r.Heads(), nil)
		equal(t, "state", r.State(), nil)
		equal(t, "residents", r.Residents(), nil)
		nothingOf(t, r, api.TCreate, "")
		nothingOf(t, r, "", "")
		if p := r.Past(); len(p.Names)+len(p.Events)+len(p.Prev)+len(p.Auth)+len(p.Denied) > 0 {
			t.Errorf("%+v", p)
		}
	}
}

// TestAddByChance (14.1, 14.2, 14.3): as the chapter's words gone through one by one, wrong calls among right ones.
func TestAddByChance(t *testing.T) {
	r := rand.New(rand.NewSource(141))
	counts := map[api.Errno]int{}
	for range 40 {
		h := begun(t)
		m := modelOf(t, h.Room)
		for range 20 {
			e := h.draft(chanceEvent(r), chancePrev(r, h)...)
			k := api.Known{Name: nameAt(h.Len() - pick(r, 0, 0, 0, 1, 3)), Event: e}
			for range pick(r, 0, 0, 1, 2) {
				switch r.Intn(5) {
				case 0:
					k.Name = pick(r, wrongNames()...)
				case 1:
					k.Event.Prev = append(k.Event.Prev, name(1))
				case 2:
					k.Event.Auth = append([]string{name(2)}, k.Event.Auth...)
				case 3:
					k.Event.Room = pick(r, "!q:s1", "", here)
				case 4:
					k.Event.Depth -= 9
				}
			}
			want, err := m.add(k)
			got, error := h.Add(k)
			if got != want || error != err {
				t.Fatalf("%+v: denied %t, not %t, error %d, not %d", k, got, want, error, err)
			}
			counts[err]++
		}
		held(t, h.Room, m)
	}
	for _, err := range []api.Errno{api.OK, api.ErrShape, api.ErrHave, api.ErrMissing} {
		if counts[err] < 50 {
			t.Errorf("error %d: %d times", err, counts[err])
		}
	}
}
