package choose

import (
	"fmt"
	"math"
	"strings"
	"testing"

	"agora/api"
	"agora/room"
)

// long makes an event too long, by its bytes alone.
func long(e *api.Event) {
	e.Content.Keys = append([]string{"a"}, e.Content.Keys...)
	e.Content.List = append([]api.Json{{Kind: api.JText, Text: strings.Repeat("x", api.MaxBytes)}}, e.Content.List...)
}

// wrongShapes are ways in which a draft is not well shaped, whatever it follows.
func wrongShapes() map[string]func(e *api.Event) {
	return map[string]func(e *api.Event){
		"all of it":   func(e *api.Event) { *e = api.Event{Type: e.Type} },
		"no room":     func(e *api.Event) { e.Room = "" },
		"room":        func(e *api.Event) { e.Room = "r:s1" },
		"type":        func(e *api.Event) { e.Type += "-A" },
		"long type":   func(e *api.Event) { e.Type = strings.Repeat("t", api.MaxType+1) },
		"no sender":   func(e *api.Event) { e.Sender = "" },
		"sender":      func(e *api.Event) { e.Sender = "ann" },
		"key":         func(e *api.Event) { e.IsState, e.Key = false, "x" },
		"long key":    func(e *api.Event) { e.IsState, e.Key = true, strings.Repeat("k", api.MaxKey+1) },
		"key's bytes": func(e *api.Event) { e.IsState, e.Key = true, "\xff" },
		"content":     func(e *api.Event) { e.Content = api.Json{Kind: api.JList} },
		"no content":  func(e *api.Event) { e.Content = api.Json{} },
		"inside":      func(e *api.Event) { e.Content = api.Json{Kind: api.JMap, Keys: []string{"a"}} },
		"ts":          func(e *api.Event) { e.Ts = -1 },
		"late":        func(e *api.Event) { e.Ts = api.MaxInt + 1 },
		"long, room":  func(e *api.Event) { long(e); e.Room = "" },
		"long, ts":    func(e *api.Event) { long(e); e.Ts = math.MinInt64 },
	}
}

// wrongMosts are numbers that are not from 1 to MaxPrev.
func wrongMosts() []int {
	return []int{0, -1, -api.MaxPrev, api.MaxPrev + 1, math.MaxInt, math.MinInt, 1<<32 + 1}
}

// unheaded is a room with events, all of which are denied.
func unheaded(t *testing.T) *house {
	t.Helper()
	h := empty(t)
	h.bad(message(ann))
	h.bad(with(create(ann), func(e *api.Event) { e.Depth = 1 }))
	return h
}

// TestDraftExample (15, Examples): a draft by one who is not joined: ErrDenied.
func TestDraftExample(t *testing.T) {
	h, _ := headed(t, "5a 3b 4c")
	for most := 1; most < 5; most++ {
		refuses(t, "not joined", h.Room, message(bob), most, api.ErrDenied)
	}
}

// TestDraftWrongArg (15.2): ErrArg of a nil room, and of a most that is not from 1 to MaxPrev, whatever else is wrong.
func TestDraftWrongArg(t *testing.T) {
	h := begun(t)
	events := []api.Event{message(bob), create(ann), message(dan), with(message(bob), long), with(create(ann), long), {}}
	for _, do := range wrongShapes() {
		events = append(events, with(message(bob), do))
	}
	for i, e := range events {
		for _, r := range append(bare(), h.Room, empty(t).Room, unheaded(t).Room) {
			for _, most := range wrongMosts() {
				refuses(t, fmt.Sprintf("event %d, most %d", i, most), r, e, most, api.ErrArg)
			}
		}
		for _, most := range append(wrongMosts(), 1, 2, api.MaxPrev) {
			refuses(t, fmt.Sprintf("event %d, nil, most %d", i, most), nil, e, most, api.ErrArg)
		}
	}
}

// TestDraftWrongShape (15.2): ErrShape of what is not well shaped, in any room, allowed or not; ErrLong of what is but too long.
func TestDraftWrongShape(t *testing.T) {
	for i, h := range []*house{begun(t), forked(t), small(t), empty(t), unheaded(t)} {
		for _, e := range []api.Event{message(ann), message(bob), message(dan), joined(dan), create(ann), create(dan), with(create(ann), func(e *api.Event) { e.IsState = false })} {
			for what, do := range wrongShapes() {
				refuses(t, fmt.Sprintf("room %d, %s of %s: %s", i, e.Type, e.Sender, what), h.Room, with(e, do), 2, api.ErrShape)
			}
			refuses(t, fmt.Sprintf("room %d, %s of %s: too long", i, e.Type, e.Sender), h.Room, with(e, long), 2, api.ErrLong)
		}
	}
}

// TestDraftHave (15.2): ErrHave of a creation where there are events, be they denied, and be it one that the rules would refuse.
func TestDraftHave(t *testing.T) {
	for i, h := range []*house{begun(t), forked(t), small(t), unheaded(t)} {
		for what, e := range map[string]api.Event{
			"the same":       create(ann),
			"by another one": create(dan),
			"other server":   create(bob),
			"other creator":  with(create(ann), func(e *api.Event) { e.Content = value(`{}`) }),
			"a key":          with(create(ann), func(e *api.Event) { e.Key = "k" }),
			"of no state":    with(create(ann), func(e *api.Event) { e.IsState = false }),
			"another room":   with(create(ann), func(e *api.Event) { e.Room = "!q:s1" }),
		} {
			refuses(t, fmt.Sprintf("room %d: %s", i, what), h.Room, e, 3, api.ErrHave)
		}
	}
}

// TestDraftNone (15.2): ErrNone in a room without heads, with and without events, be it what the rules would refuse.
func TestDraftNone(t *testing.T) {
	for i, h := range []*house{empty(t), unheaded(t)} {
		for _, e := range []api.Event{message(ann), joined(ann), message(bob), title(ann, "x"), with(message(ann), func(e *api.Event) { e.Room = "!q:s1" }), of(api.TMember, "x", ann, `{}`)} {
			refuses(t, fmt.Sprintf("room %d: %s of %s", i, e.Type, e.Sender), h.Room, e, 3, api.ErrNone)
		}
	}
}

// TestDraftDenied (15.2): ErrDenied of what the rules do not allow.
func TestDraftDenied(t *testing.T) {
	h := begun(t)
	for what, e := range map[string]api.Event{
		"not joined":      message(dan),
		"nobody known":    message("@no:s9"),
		"level":           rule(cat, "invite"),
		"higher":          gives(bob, 100, 0),
		"another's key":   of("x", bob, ann, `{}`),
		"join of another": member(ann, dan, "join"),
		"membership":      member(ann, ann, "x"),
		"no user":         of(api.TMember, "x", ann, `{}`),
		"no levels":       of(api.TPower, "", ann, `{"ban":"x"}`),
		"ban above":       member(bob, ann, "ban"),
		"another room":    with(message(ann), func(e *api.Event) { e.Room = "!q:s1" }),
		"another server":  with(message(ann), func(e *api.Event) { e.Room = "!r:s2" }),
		"join elsewhere":  with(joined(dan), func(e *api.Event) { e.Room = "!q:s1" }),
	} {
		for _, most := range []int{1, 5} {
			refuses(t, what, h.Room, e, most, api.ErrDenied)
		}
	}
	begin := empty(t)
	for what, e := range map[string]api.Event{
		"other server":  create(bob),
		"other creator": with(create(ann), func(e *api.Event) { e.Content = value(`{"creator":"@dan:s1"}`) }),
		"no creator":    with(create(ann), func(e *api.Event) { e.Content = value(`{}`) }),
		"a key":         with(create(ann), func(e *api.Event) { e.Key = "k" }),
		"of no state":   with(create(ann), func(e *api.Event) { e.IsState = false }),
	} {
		refuses(t, what, begin.Room, e, 1, api.ErrDenied)
	}
}

// TestDraftOfAnotherRoom (15.2): a creation hangs on no state: where there are no events, one of another room is drafted as it stands.
func TestDraftOfAnotherRoom(t *testing.T) {
	other := with(create(ann), func(e *api.Event) { e.Room = "!q:s1" })
	for _, r := range append(bare(), empty(t).Room) {
		d, err := Draft(r, other, 1)
		if err != api.OK {
			t.Errorf("error %d", err)
		}
		alike(t, "creation", d, other)
	}
}

// TestBareRooms (15, R1): a nil room, and one that New did not make: without events.
func TestBareRooms(t *testing.T) {
	for i, r := range bare() {
		what := fmt.Sprint("room ", i)
		d, err := Draft(r, create(ann), 3)
		if err != api.OK {
			t.Errorf("%s: error %d", what, err)
		}
		alike(t, what, d, create(ann))
		for sender, want := range map[string]api.Errno{ann: api.ErrNone, "ann": api.ErrShape} {
			refuses(t, what, r, message(sender), 3, want)
			if d, err := Dummy(r, here, sender, 1, 3); err != want || d.Room != "" {
				t.Errorf("%s: error %d, not %d: %+v", what, err, want, d)
			}
		}
		refuses(t, what, r, create(bob), 3, api.ErrDenied)
		refuses(t, what, r, create(ann), 0, api.ErrArg)
	}
	var none *room.Room
	for _, e := range []api.Event{create(ann), message(ann), {}} {
		refuses(t, "nil", none, e, 3, api.ErrArg)
	}
}

// TestRefusedLeavesAll (15.2, R2): what is refused changes nothing.
func TestRefusedLeavesAll(t *testing.T) {
	for _, h := range []*house{forked(t), empty(t), unheaded(t)} {
		was := look(h.Room)
		for _, e := range []api.Event{message(dan), create(bob), with(message(ann), long), with(create(ann), long), {}} {
			for _, most := range []int{0, 1, 3, api.MaxPrev + 1} {
				Draft(h.Room, e, most)
			}
		}
		unchanged(t, "refused", h.Room, was)
	}
}
