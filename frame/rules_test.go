package frame

import (
	"bytes"
	"fmt"
	"math/rand"
	"slices"
	"strings"
	"sync"
	"testing"

	"agora/api"
)

// TestLongInputs (R1): very long bytes, rows, texts.
func TestLongInputs(t *testing.T) {
	const n = 3 << 20
	for _, b := range [][]byte{make([]byte, n), bytes.Repeat([]byte{255}, n), bytes.Repeat([]byte("\x00\x01["), n/3), bytes.Repeat([]byte("[{"), n/2),
		append(framed(`{"kind":6,"room":"!r:s1"}`), bytes.Repeat(framed(plainBytes), n/200)...), append(framed(`{"at":0,"kind":1,"room":"!r:s1"}`), make([]byte, n)...)} {
		none(t, "long bytes", b)
	}
	noLink(t, "long bytes", append([]byte{1}, make([]byte, n)...))
	unlinked(t, "long bytes", api.Link{Data: make([]byte, n)})
	long := strings.Repeat("x", n)
	for _, kind := range all() {
		for _, do := range []func(m *api.Message){
			func(m *api.Message) { m.User = long },
			func(m *api.Message) { m.What = long },
			func(m *api.Message) { m.Prev = slices.Repeat([]string{name(1)}, n) },
			func(m *api.Message) { m.Auth = slices.Repeat([]string{long}, 1000) },
			func(m *api.Message) { m.Names = slices.Repeat([]string{name(1)}, n) },
			func(m *api.Message) { m.Events = make([]api.Event, n/100) },
			func(m *api.Message) { m.Events = slices.Repeat([]api.Event{plain()}, n/100) },
		} {
			refused(t, fmt.Sprintf("kind %d, too long", kind), with(rich(kind), do))
		}
		refused(t, "a long room", inRoom(rich(kind), "!"+long))
	}
}

// TestAnyContents (R1): contents that hold themselves, that are very deep, or made of any parts.
func TestAnyContents(t *testing.T) {
	ring := make([]api.Json, 2)
	ring[0] = api.Json{Kind: api.JList, List: ring}
	ring[1] = api.Json{Kind: api.JMap, Keys: []string{"a", "b"}, List: ring}
	deep := api.Json{Kind: api.JList}
	for range 10000 {
		deep = api.Json{Kind: api.JList, List: []api.Json{deep}}
	}
	around := api.Json{Kind: api.JMap, Keys: []string{"a"}, List: []api.Json{deep}}
	for _, kind := range all() {
		for _, c := range []api.Json{ring[0], ring[1], deep, around, {Kind: -1}, {Kind: 77}, {Kind: api.JMap, Keys: []string{"a"}}, {Kind: api.JMap, List: ring[:1]}} {
			e := plain()
			e.Content = c
			for _, l := range [][]api.Event{{e}, {plain(), e}, {e, plain(), e}} {
				refused(t, fmt.Sprintf("kind %d, a content of kind %d", kind, c.Kind), with(rich(kind), func(m *api.Message) { m.Events = l }))
			}
		}
	}
}

// TestAnyBytes (R1, R2): bytes by chance tell nothing, and no call panics.
func TestAnyBytes(t *testing.T) {
	r := rand.New(rand.NewSource(170))
	for range 20000 {
		b := make([]byte, r.Intn(60))
		r.Read(b)
		if len(b) > 2 && r.Intn(2) == 0 {
			b[0], b[1] = 0, byte(len(b)-2)
		}
		none(t, "by chance", b)
	}
}

// TestEmptyListsAreTheSame (R3): a list that is empty may be nil.
func TestEmptyListsAreTheSame(t *testing.T) {
	for _, kind := range all() {
		m := bare(kind)
		o := with(m, func(m *api.Message) {
			if m.Prev, m.Auth = []string{}, []string{}; len(m.Names) == 0 {
				m.Names = []string{}
			}
			if len(m.Events) == 0 {
				m.Events = []api.Event{}
			}
		})
		taken(t, fmt.Sprint("nil, kind ", kind), m)
		taken(t, fmt.Sprint("empty, kind ", kind), o)
		a, _ := Encode(m)
		if b, _ := Encode(o); !bytes.Equal(a, b) {
			t.Errorf("kind %d: %q and %q", kind, a, b)
		}
	}
	for _, ack := range []bool{false, true} {
		for _, data := range [][]byte{nil, {}, []byte("x")[:0]} {
			linked(t, "no data", api.Link{Ack: ack, Seq: 4, Data: data})
		}
	}
	none(t, "nil", nil)
	none(t, "empty", []byte{})
}

// roomy tells the same row with something behind its end.
func roomy[T any](l []T, behind T) []T {
	return append(append(make([]T, 0, len(l)+2), l...), behind, behind)[:len(l)]
}

func roomyJson(j api.Json) api.Json {
	l := roomy(j.List, api.Json{Kind: 77})
	for i := range l {
		l[i] = roomyJson(l[i])
	}
	j.Keys, j.List = roomy(j.Keys, "behind"), l
	return j
}

// roomyMessage tells the same message, in memory of its own, with something behind the ends of all its rows.
func roomyMessage(m api.Message) api.Message {
	m.Prev, m.Auth, m.Names, m.Events = roomy(m.Prev, "behind"), roomy(m.Auth, "behind"), roomy(m.Names, "behind"), roomy(m.Events, api.Event{Room: "behind"})
	for i := range m.Events {
		e := &m.Events[i]
		e.Prev, e.Auth, e.Sigs = roomy(e.Prev, "behind"), roomy(e.Auth, "behind"), roomy(e.Sigs, api.Sig{Server: "behind"})
		e.Content = roomyJson(e.Content)
	}
	return m
}

// whole tells all memory of a message as a text, with what lies behind the ends of its rows.
func whole(m api.Message) string {
	s := fmt.Sprint(m.Kind, m.Room, m.User, m.What, m.At, m.Err, m.Depth, m.Prev[:cap(m.Prev)], m.Auth[:cap(m.Auth)], m.Names[:cap(m.Names)])
	for _, e := range m.Events[:cap(m.Events)] {
		s += fmt.Sprint("; ", e.Room, e.Type, e.Sender, e.IsState, e.Key, e.Depth, e.Ts, e.Hash, e.Prev[:cap(e.Prev)], e.Auth[:cap(e.Auth)], e.Sigs[:cap(e.Sigs)], wholeJson(e.Content))
	}
	return s
}

func wholeJson(j api.Json) string {
	s := fmt.Sprint(j.Kind, j.Int, j.Text, j.Keys[:cap(j.Keys)])
	for _, v := range j.List[:cap(j.List)] {
		s += " [" + wholeJson(v) + "]"
	}
	return s
}

// spoil writes over a row, and over what lies behind its end.
func spoil[T any](l []T, with T) {
	l = l[:cap(l)]
	for i := range l {
		l[i] = with
	}
}

func spoilJson(j api.Json) {
	for _, v := range j.List {
		spoilJson(v)
	}
	spoil(j.Keys, "spoilt")
	spoil(j.List, api.Json{Kind: 77})
}

// spoilMessage writes over all rows of a message.
func spoilMessage(m api.Message) {
	for _, e := range m.Events {
		spoil(e.Prev, "spoilt")
		spoil(e.Auth, "spoilt")
		spoil(e.Sigs, api.Sig{Server: "spoilt"})
		spoilJson(e.Content)
	}
	spoil(m.Prev, "spoilt")
	spoil(m.Auth, "spoilt")
	spoil(m.Names, "spoilt")
	spoil(m.Events, api.Event{Room: "spoilt"})
}

// TestHandedInIsNotChanged (R4): messages, links and bytes, with what lies behind the ends of their rows.
func TestHandedInIsNotChanged(t *testing.T) {
	for _, m := range append(rights(rand.New(rand.NewSource(179)), 200), api.Message{}, api.Message{Kind: 8, Prev: names(30)}) {
		m = roomyMessage(m)
		was := whole(m)
		Right(m)
		b, _ := Encode(m)
		if whole(m) != was {
			t.Fatalf("%s became %s", was, whole(m))
		}
		b = roomy(b, '#')
		bytesWere := string(b[:cap(b)])
		o, _ := Decode(b)
		spoilMessage(o)
		Decode(b[:len(b)/2])
		l := api.Link{Seq: 3, Data: b}
		coded, _ := EncodeLink(l)
		spoil(coded, '!')
		back, _ := DecodeLink(b)
		spoil(back.Data, '!')
		if string(b[:cap(b)]) != bytesWere {
			t.Fatalf("%q became %q", bytesWere, b[:cap(b)])
		}
	}
	for _, first := range []byte{1, 2} {
		b := roomy([]byte{first, 0, 0, 0, 0, 0, 0, 0, 3, 'a', 'b'}[:9+2*(2-int(first))], '#')
		was := string(b[:cap(b)])
		l, err := DecodeLink(b)
		_ = append(l.Data, "!!!!"...)
		spoil(l.Data, '!')
		if string(b[:cap(b)]) != was || err != api.OK {
			t.Errorf("%q became %q, error %d", was, b[:cap(b)], err)
		}
	}
}

// TestHandedInIsNotKept (R4): what is changed afterwards by who handed it in changes nothing of what was told.
func TestHandedInIsNotKept(t *testing.T) {
	for _, m := range rights(rand.New(rand.NewSource(180)), 200) {
		m = roomyMessage(m)
		want, wanted := model(m), shown(arranged(m))
		b, _ := Encode(m)
		spoilMessage(m)
		if !bytes.Equal(b, want) {
			t.Fatalf("%.300q, not %.300q", b, want)
		}
		o, _ := Decode(b)
		spoil(b, '#')
		if shown(o) != wanted {
			t.Fatalf("%.300s, not %.300s", shown(o), wanted)
		}
	}
	data := []byte("data")
	b, _ := EncodeLink(api.Link{Seq: 1, Data: data})
	spoil(data, '#')
	l, _ := DecodeLink(b)
	spoil(b, '#')
	if string(l.Data) != "data" {
		t.Errorf("%q", l.Data)
	}
}

// TestHandedOutIsNew (R4): who writes over an answer changes no other one, nor another row of it.
func TestHandedOutIsNew(t *testing.T) {
	for _, kind := range all() {
		b := model(rich(kind))
		one, _ := Decode(b)
		other, _ := Decode(b)
		spoilMessage(one)
		if shown(other) != shown(arranged(rich(kind))) {
			t.Errorf("kind %d: %s", kind, shown(other))
		}
		reads(t, fmt.Sprint("kind ", kind), b, rich(kind))
		// Of two events with the same bytes neither has a row of the other one.
		if has(kind, "events") {
			m := api.Message{Kind: kind, Room: here, Events: []api.Event{full(), full()}}
			twice, _ := Decode(model(m))
			spoilMessage(api.Message{Events: twice.Events[:1:1]})
			if shown(api.Message{Events: twice.Events[1:]}) != shown(api.Message{Events: arranged(m).Events[1:]}) {
				t.Errorf("kind %d: %+v", kind, twice.Events[1])
			}
		}
	}
	m := rich(api.MDraft)
	got, _ := Decode(model(m))
	_ = append(got.Prev, "spoilt", "spoilt", "spoilt")
	spoil(got.Prev, "spoilt")
	if !slices.Equal(got.Auth, m.Auth) {
		t.Errorf("%v", got.Auth)
	}
	x, _ := EncodeLink(api.Link{Seq: 1})
	y, _ := EncodeLink(api.Link{Seq: 1})
	spoil(x, '#')
	if !bytes.Equal(y, linkModel(api.Link{Seq: 1})) {
		t.Errorf("%q", y)
	}
}

// TestSameEachTime (R5): the same is answered again, beside others, too.
func TestSameEachTime(t *testing.T) {
	l := rights(rand.New(rand.NewSource(181)), 100)
	want := make([]string, len(l))
	for i, m := range l {
		want[i] = string(model(m))
	}
	var wait sync.WaitGroup
	for range 4 {
		wait.Go(func() {
			for i, m := range l {
				b, err := Encode(m)
				o, wrong := Decode(b)
				again, _ := Encode(o)
				if string(b) != want[i] || string(again) != want[i] || err != api.OK || wrong != api.OK || !Right(m) {
					t.Errorf("%s: %.300q, errors %d and %d", shown(m), b, err, wrong)
				}
			}
		})
	}
	wait.Wait()
}
