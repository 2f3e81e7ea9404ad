package frame

import (
	"bytes"
	"fmt"
	"strings"
	"testing"

	"agora/api"
	"agora/canon"
	"agora/event"
)

const plainBytes = `{"auth":[],"content":{},"depth":0,"hash":"","prev":[],"room":"!r:s1","sender":"@ann:s1","sigs":{},"ts":0,"type":"m.room.message"}`

// byHand tells messages of all kinds with their parts as texts.
func byHand() []struct {
	m     api.Message
	parts []string
} {
	e := []api.Event{plain()}
	return []struct {
		m     api.Message
		parts []string
	}{
		{api.Message{Kind: 1, Room: "!r:s", At: 5}, []string{`{"at":5,"kind":1,"room":"!r:s"}`}},
		{api.Message{Kind: 2, Room: here}, []string{`{"at":0,"kind":2,"room":"!r:s1"}`}},
		{api.Message{Kind: 3, Room: here, At: api.MaxInt}, []string{`{"at":9007199254740991,"kind":3,"room":"!r:s1"}`}},
		{api.Message{Kind: 3, Room: here, At: 7, Events: []api.Event{plain(), plain()}}, []string{`{"at":7,"kind":3,"room":"!r:s1"}`, plainBytes, plainBytes}},
		{api.Message{Kind: 4, Room: here, Events: e}, []string{`{"kind":4,"room":"!r:s1"}`, plainBytes}},
		{api.Message{Kind: 5, Room: here, Names: []string{name(2), name(1)}}, []string{`{"kind":5,"names":["$AAAAAAAAAAI","$AAAAAAAAAAE"],"room":"!r:s1"}`}},
		{api.Message{Kind: 6, Room: here}, []string{`{"kind":6,"room":"!r:s1"}`}},
		{api.Message{Kind: 6, Room: here, Events: e}, []string{`{"kind":6,"room":"!r:s1"}`, plainBytes}},
		{api.Message{Kind: 7, Room: here, User: ann, What: "join"}, []string{`{"kind":7,"room":"!r:s1","user":"@ann:s1","what":"join"}`}},
		{api.Message{Kind: 8, Room: here, User: ann, What: "leave", Err: 110, Depth: 3, Prev: names(1), Auth: names(2)},
			[]string{`{"auth":["$AAAAAAAAAAE","$AAAAAAAAAAI"],"depth":3,"err":110,"kind":8,"prev":["$AAAAAAAAAAE"],"room":"!r:s1","user":"@ann:s1","what":"leave"}`}},
		{api.Message{Kind: 8, Room: here, User: ann, What: "join"},
			[]string{`{"auth":[],"depth":0,"err":0,"kind":8,"prev":[],"room":"!r:s1","user":"@ann:s1","what":"join"}`}},
		{api.Message{Kind: 9, Room: here, What: "join", Events: e}, []string{`{"kind":9,"room":"!r:s1","what":"join"}`, plainBytes}},
		{api.Message{Kind: 10, Room: here, User: ann, What: "join", Err: 255}, []string{`{"err":255,"kind":10,"room":"!r:s1","user":"@ann:s1","what":"join"}`}},
		{api.Message{Kind: 11, Room: here, User: bob, Events: e}, []string{`{"kind":11,"room":"!r:s1","user":"@bob:s2"}`, plainBytes}},
	}
}

// TestByHand (17.2, 17.3): messages of all kinds, with their bytes by hand, the chapter's example first.
func TestByHand(t *testing.T) {
	for _, c := range byHand() {
		taken(t, c.parts[0], c.m)
		b, err := Encode(c.m)
		if want := framed(c.parts...); !bytes.Equal(b, want) || err != api.OK {
			t.Errorf("%q, error %d, not %q", b, err, want)
		}
		reads(t, c.parts[0], framed(c.parts...), c.m)
	}
	b, _ := Encode(api.Message{Kind: api.MHeart, Room: "!r:s", At: 5})
	if string(b) != "\x00\x1f"+`{"at":5,"kind":1,"room":"!r:s"}` {
		t.Errorf("the chapter's example: %q", b)
	}
}

// TestTwoBytes (17.2): how many bytes a part has is told by two bytes, the highest first, of a head, too.
func TestTwoBytes(t *testing.T) {
	for n := range api.MaxBatch {
		m := api.Message{Kind: api.MMissing, Room: here, Names: names(n + 1)}
		b, err := Encode(m)
		if long := len(b) - 2; err != api.OK || b[0] != byte(long/256) || b[1] != byte(long%256) {
			t.Errorf("%d names: %q, error %d", n+1, b, err)
		}
	}
	for _, n := range []int{200, 255, 256, 257, 511, 512, 4095, 4096, api.MaxBytes - 1, api.MaxBytes} {
		m := api.Message{Kind: api.MPush, Room: here, Events: []api.Event{long(n)}}
		taken(t, fmt.Sprint("an event of ", n), m)
		b, _ := Encode(m)
		if at := len(b) - n; b[at-2] != byte(n>>8) || b[at-1] != byte(n) || b[at] != '{' {
			t.Errorf("an event of %d: %q", n, b[:at])
		}
	}
}

// TestContentsOfAnyOrder (17.2): an event's bytes are the same, in whatever order its content is told.
func TestContentsOfAnyOrder(t *testing.T) {
	m := api.Message{Kind: api.MPush, Room: here, Events: []api.Event{full()}}
	a, _ := Encode(m)
	b, _ := Encode(arranged(m))
	if !bytes.Equal(a, b) || shown(m) == shown(arranged(m)) {
		t.Errorf("%q and %q", a, b)
	}
}

// greatest tells messages that are as long as may be, by kind.
func greatest(kind int) api.Message {
	m := inRoom(rich(kind), "!"+longest)
	if has(kind, "user") {
		m.User = "@" + longest
	}
	if has(kind, "at") {
		m.At = api.MaxInt
	}
	if has(kind, "err") {
		m.Err = 255
	}
	if has(kind, "draft") {
		m.Depth, m.Prev, m.Auth = api.MaxHeight, names(api.MaxPrev), names(api.MaxAuth)
	}
	if has(kind, "names") {
		m.Names = names(api.MaxBatch)
	}
	if n := len(m.Events); n > 0 {
		e := long(api.MaxBytes - len(longest) - 1 + len(here))
		if m.Events = []api.Event{e}; has(kind, "events") {
			for range api.MaxBatch - 1 {
				m.Events = append(m.Events, e)
			}
		}
		m = inRoom(m, m.Room)
	}
	return m
}

// TestTheGreatest (17.2): no right message is too long: the greatest head and the greatest whole are within the limits.
func TestTheGreatest(t *testing.T) {
	for _, kind := range all() {
		m := greatest(kind)
		taken(t, fmt.Sprint("kind ", kind), m)
		b, _ := Encode(m)
		if first := partsOf(m)[0]; len(first) > api.MaxBytes || len(b) > api.MaxPiece {
			t.Errorf("kind %d: a head of %d bytes, %d in all", kind, len(first), len(b))
		}
		for _, e := range m.Events {
			if b, err := event.Encode(e); len(b) != api.MaxBytes || err != api.OK {
				t.Errorf("kind %d: an event of %d bytes, error %d", kind, len(b), err)
			}
		}
	}
}

// TestHeadIsCanonical (17.2): the head is as canon writes what it says, and has no key but the table's.
func TestHeadIsCanonical(t *testing.T) {
	keys := map[int]string{
		1: "at kind room", 2: "at kind room", 3: "at kind room", 4: "kind room", 5: "kind names room", 6: "kind room", 7: "kind room user what",
		8: "auth depth err kind prev room user what", 9: "kind room what", 10: "err kind room user what", 11: "kind room user",
	}
	for _, kind := range all() {
		for _, m := range []api.Message{bare(kind), rich(kind), greatest(kind)} {
			b, err := Encode(m)
			if err != api.OK || len(b) < 2 {
				t.Fatalf("kind %d: error %d", kind, err)
			}
			first := b[2 : 2+int(b[0])<<8+int(b[1])]
			j, wrong, at := canon.Decode(first)
			again, _ := canon.Encode(j)
			if wrong != api.OK || !bytes.Equal(first, again) || strings.Join(j.Keys, " ") != keys[kind] {
				t.Errorf("kind %d: %s, error %d at %d", kind, first, wrong, at)
			}
		}
	}
}
