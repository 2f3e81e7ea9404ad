package room

import (
	"fmt"
	"math"
	"math/rand"
	"reflect"
	"slices"
	"strings"
	"sync"
	"testing"

	"agora/api"
)

// TestLongRoom (R1): very many events, one behind the other, by very many users; states that are great.
func TestLongRoom(t *testing.T) {
	const n = 3000
	h := begun(t)
	last := 5
	for i := range n {
		last = h.put(with(joined(fmt.Sprintf("@u%d:x%d", i, i%100))), last)
		if i%3 == 0 {
			last = h.put(message(ann), last)
		}
	}
	if len(h.State()) != n+6 || len(h.Residents()) != 103 || len(h.Ahead(last)) != n+5 {
		t.Errorf("%d spots, %d residents, %d ahead", len(h.State()), len(h.Residents()), len(h.Ahead(last)))
	}
	is(t, "heads", h.Heads(), fmt.Sprint(last))
	one, other := h.put(title(ann, "x"), last), h.put(title(bob, "y"), last)
	at := h.put(message(ann), one, other)
	if len(h.Behind(at)) != n+7 {
		t.Errorf("%d spots", len(h.Behind(at)))
	}
	if k, ok := h.Event(api.TMember, "@u2999:x99"); !ok || k.Event.Sender != "@u2999:x99" {
		t.Errorf("%t, %+v", ok, k)
	}
}

// TestWideRoom (R1): very many heads, and events that follow as many as they may.
func TestWideRoom(t *testing.T) {
	h := begun(t)
	for range 500 {
		h.put(message(bob), 5)
	}
	if len(h.Heads()) != 500 {
		t.Errorf("%d heads", len(h.Heads()))
	}
	h.stands("state", h.State(), "0 1 2 3 4 5")
	for i := range 60 {
		h.put(joined(fmt.Sprintf("@u%d:x", i)), 6+i)
	}
	if s := h.State(); len(s) != 66 || len(h.Heads()) != 500 {
		t.Errorf("%d spots, %d heads", len(s), len(h.Heads()))
	}
	for len(h.Heads()) > 1 {
		h.put(message(ann), h.Heads()[:min(api.MaxPrev, len(h.Heads()))]...)
	}
	if s := h.State(); len(s) != 66 || !slices.Equal(h.Behind(h.Len()-1), s) {
		t.Errorf("%d spots", len(s))
	}
	all := make([]int, 0, 3*h.Len())
	for i := range 3 * h.Len() {
		all = append(all, i-h.Len())
	}
	equal(t, "come of all", h.Come(all), h.State())
	equal(t, "come of one very often", h.Come(slices.Repeat([]int{7, -1, math.MaxInt}, 1<<16)), h.Behind(7))
}

// ring tells a map that holds itself.
func ring() api.Json {
	l := make([]api.Json, 1)
	l[0] = api.Json{Kind: api.JMap, Keys: []string{"membership"}, List: l}
	return l[0]
}

// TestAnyContents (R1): contents that hold themselves, are deep, or are of any parts.
func TestAnyContents(t *testing.T) {
	deep := api.Json{Kind: api.JList}
	for range 10000 {
		deep = api.Json{Kind: api.JList, List: []api.Json{deep}}
	}
	h := begun(t)
	for i, c := range []api.Json{ring(), deep, {Kind: api.JMap, Keys: []string{"x"}, List: []api.Json{deep}}, {Kind: -1}, {Kind: 9}, {Kind: api.JMap, Keys: []string{"x"}}, {Kind: api.JMap, List: []api.Json{{}}}, {Kind: api.JMap, Int: 1}} {
		for _, e := range []api.Event{h.draft(message(bob), 5), h.draft(joined(bob), 5), create(ann)} {
			e.Content = c
			h.refused(fmt.Sprint("content ", i), nameAt(6), e, api.ErrShape)
		}
	}
	// What is right may still say nothing that the rules, or the residents, ask for.
	for _, c := range []string{`{}`, `{"membership":null}`, `{"membership":1}`, `{"membership":{"membership":"join"}}`, `{"membership":["join"]}`, `{"Membership":"join"}`} {
		h.bad(with(h.draft(joined(bob), 5), func(e *api.Event) { e.Content = value(c) }))
	}
	held(t, h.Room, modelOf(t, h.Room))
}

// TestAnyParts (R1, R2): events of any parts, and places of any size: no call panics, and none that is refused leaves anything.
func TestAnyParts(t *testing.T) {
	r := rand.New(rand.NewSource(1))
	texts := []string{"", "x", here, "!q:s1", ann, bob, nameAt(0), nameAt(3), nameAt(9), api.TMember, api.TCreate, "\xff", strings.Repeat("a", 200)}
	text := func() string { return pick(r, texts...) }
	row := func() (l []string) {
		for range r.Intn(4) {
			l = append(l, text())
		}
		return l
	}
	h := forked(t)
	was := look(h.Room)
	for range 3000 {
		e := api.Event{Room: text(), Type: text(), Sender: text(), IsState: r.Intn(2) == 0, Key: text(), Prev: row(), Auth: row(), Depth: int64(r.Intn(9) - 2), Ts: r.Int63(), Hash: text()}
		e.Content = pick(r, api.Json{}, ring(), value(`{}`), value(`{"membership":"join"}`))
		if denied, err := h.Add(api.Known{Name: text(), Event: e}); denied || err != api.ErrShape {
			t.Fatalf("denied %t, error %d: %+v", denied, err, e)
		}
		i := pick(r, r.Int(), -r.Int(), r.Intn(20))
		h.Known(i)
		h.Ahead(i)
		h.Behind(i)
		h.Denied(i)
		h.Come([]int{i, -i, i + 1})
		h.Place(text())
		h.Event(text(), text())
	}
	unchanged(t, "wrong calls", h.Room, was)
}

// TestEmptyListsAreTheSame (R3).
func TestEmptyListsAreTheSame(t *testing.T) {
	fill := func(e api.Event) api.Event {
		e.Prev, e.Auth, e.Sigs = append([]string{}, e.Prev...), append([]string{}, e.Auth...), []api.Sig{}
		e.Content.Keys, e.Content.List = append([]string{}, e.Content.Keys...), append([]api.Json{}, e.Content.List...)
		return e
	}
	h, other := begun(t), empty(t)
	for i := range h.Len() {
		other.add(fill(h.Known(i).Event))
	}
	alikeByName(t, "empty rows", h.Room, other.Room)
	unchanged(t, "empty rows", other.Room, look(h.Room))
	if len(h.Come(nil))+len(h.Come([]int{})) > 0 || Height(nil) != Height([]int64{}) {
		t.Error("something of nothing")
	}
}

// roomy tells the same row with something behind its end.
func roomy[T any](l []T, behind T) []T {
	return append(append(make([]T, 0, len(l)+2), l...), behind, behind)[:len(l)]
}

// roomyJson does the same within a value.
func roomyJson(j api.Json) api.Json {
	l := roomy(j.List, api.Json{Kind: 77})
	for i := range l {
		l[i] = roomyJson(l[i])
	}
	j.Keys, j.List = roomy(j.Keys, "behind"), l
	return j
}

// roomyEvent does the same within an event.
func roomyEvent(e api.Event) api.Event {
	e.Prev, e.Auth, e.Sigs = roomy(e.Prev, nameAt(1)), roomy(e.Auth, nameAt(1)), roomy(e.Sigs, api.Sig{Server: "behind"})
	e.Content = roomyJson(e.Content)
	return e
}

// whole tells all memory of a value as a text, with what lies behind the ends of its rows.
func whole(j api.Json) string {
	s := fmt.Sprint(j.Kind, j.Int, j.Text, j.Keys[:cap(j.Keys)])
	for _, v := range j.List[:cap(j.List)] {
		s += " [" + whole(v) + "]"
	}
	return s
}

// wholeEvent does the same of an event.
func wholeEvent(e api.Event) string {
	rows := fmt.Sprint(e.Prev[:cap(e.Prev)], e.Auth[:cap(e.Auth)], e.Sigs[:cap(e.Sigs)])
	return rows + whole(e.Content) + fmt.Sprint(e.Room, e.Type, e.Sender, e.IsState, e.Key, e.Depth, e.Ts, e.Hash)
}

// TestHandedInIsNotChanged (R4): events, rows of places, of depths, and what lies behind their ends, whether they are taken or not.
func TestHandedInIsNotChanged(t *testing.T) {
	h := forked(t)
	good := h.draft(member(ann, dan, "invite"), 6, 8, 9)
	slices.Reverse(good.Prev)
	slices.Reverse(good.Auth)
	good.Content = value(`{"z":[{"b":[1]}],"membership":"invite","a":{"y":"x"}}`)
	good.Sigs = []api.Sig{{Server: "s1", Token: "AAAAAAAAAAE"}}
	events := []api.Event{good, with(good, func(e *api.Event) { e.Depth = 1 }), with(good, func(e *api.Event) { e.Room = "!q:s1" }), with(good, func(e *api.Event) { e.Prev = []string{name(1)} })}
	for i, e := range events {
		for _, named := range []string{nameAt(h.Len()), nameAt(3), "x"} {
			e = roomyEvent(e)
			was := wholeEvent(e)
			h.Add(api.Known{Name: named, Event: e})
			look(h.Room)
			if now := wholeEvent(e); now != was {
				t.Errorf("event %d: %s became %s", i, was, now)
			}
		}
	}
	for _, l := range [][]int{{}, {9, 6, 9, -1, 99, 7}, {5}, {8, 7}} {
		l = roomy(l, 3)
		was := slices.Clone(l[:cap(l)])
		want := h.Come(slices.Clone(l))
		equal(t, "what lies behind an end", h.Come(l), want)
		equal(t, "places", l[:cap(l)], was)
	}
	depths := roomy([]int64{3, 9, 1}, 77)
	if Height(depths) != 10 || !slices.Equal(depths[:cap(depths)], []int64{3, 9, 1, 77, 77}) {
		t.Errorf("%v", depths[:cap(depths)])
	}
}

// spoil writes over a row, and over what lies behind its end.
func spoil[T any](l []T, with T) {
	l = l[:cap(l)]
	for i := range l {
		l[i] = with
	}
}

func spoilJson(j api.Json) {
	for _, v := range j.List {
		spoilJson(v)
	}
	spoil(j.Keys, "spoilt")
	spoil(j.List, api.Json{Kind: 77})
}

func spoilEvent(e api.Event) {
	spoil(e.Prev, "spoilt")
	spoil(e.Auth, "spoilt")
	spoil(e.Sigs, api.Sig{Server: "spoilt"})
	spoilJson(e.Content)
}

// TestHandedInIsNotKept (R4): what is changed afterwards by who handed it in changes nothing.
func TestHandedInIsNotKept(t *testing.T) {
	r := rand.New(rand.NewSource(4))
	for range 10 {
		from, _ := chance(t, r, 15)
		h, other := empty(t), empty(t)
		for i := range from.Len() {
			k := from.Known(i)
			k.Event = roomyEvent(k.Event)
			if _, err := h.Add(k); err != api.OK {
				t.Fatalf("error %d", err)
			}
			other.Add(from.Known(i))
			was := look(other.Room)
			spoilEvent(k.Event)
			unchanged(t, "an event is changed", h.Room, was)
		}
	}
	h := forked(t)
	l := []int{6, 7}
	s := h.Come(l)
	l[0] = 9
	h.stands("what came", s, "0 1 2 3 4 6")
}

// spoilPast writes over all that a past has.
func spoilPast(p api.Past) {
	for i := range p.Events {
		spoilEvent(p.Events[i])
		spoil(p.Prev[i], -7)
		spoil(p.Auth[i], -7)
	}
	spoil(p.Names, "spoilt")
	spoil(p.Events, api.Event{})
	spoil(p.Prev, []int{-7})
	spoil(p.Auth, []int{-7})
	spoil(p.Denied, true)
}

// TestHandedOutIsNew (R4): who writes over what was told changes nothing, in the room or in another answer.
func TestHandedOutIsNew(t *testing.T) {
	r := rand.New(rand.NewSource(44))
	for range 6 {
		h, _ := chance(t, r, 15)
		was := look(h.Room)
		none := api.Spot{Type: "spoilt", At: -7}
		for i := range h.Len() {
			k, again := h.Known(i), h.Known(i)
			told := fmt.Sprintf("%+v", again)
			spoilEvent(k.Event)
			if fmt.Sprintf("%+v", again) != told {
				t.Fatalf("%s became %+v", told, again)
			}
			ahead, behind := h.Ahead(i), h.Behind(i)
			spoil(h.Ahead(i), none)
			_ = append(h.Ahead(i), none)
			spoil(h.Behind(i), none)
			spoil(h.Come([]int{i}), none)
			spoil(h.Come([]int{i, 5}), none)
			equal(t, "ahead", h.Ahead(i), ahead)
			equal(t, "behind", h.Behind(i), behind)
		}
		unchanged(t, "places written over", h.Room, was)
		for _, one := range h.State() {
			k, _ := h.Event(one.Type, one.Key)
			spoilEvent(k.Event)
		}
		spoil(h.State(), none)
		spoil(h.Heads(), -7)
		_ = append(h.Heads(), 5)
		spoil(h.Residents(), "spoilt")
		p, again := h.Past(), h.Past()
		spoilPast(p)
		if !reflect.DeepEqual(again, h.Past()) {
			t.Fatalf("the past became %+v", again)
		}
		unchanged(t, "all written over", h.Room, was)
		// And what comes behind that is judged as ever.
		h.add(h.draft(message(ann), h.Heads()...))
		held(t, h.Room, modelOf(t, h.Room))
	}
}

// TestAnswersStay (R4, R5): what was told stays as it was told, whatever comes.
func TestAnswersStay(t *testing.T) {
	h := forked(t)
	heads, state, past, residents := h.Heads(), h.State(), h.Past(), h.Residents()
	k, ahead := h.Known(9), h.Ahead(9)
	was := fmt.Sprintf("%v %+v %+v %v %+v %+v", heads, state, past, residents, k, ahead)
	for i := range 20 {
		h.put(with(title(ann, "x"), func(e *api.Event) { e.Key = fmt.Sprint(i) }), h.Heads()[:1]...)
		h.put(joined(fmt.Sprintf("@u%d:x%d", i, i)), h.Heads()...)
	}
	if now := fmt.Sprintf("%v %+v %+v %v %+v %+v", heads, state, past, residents, k, ahead); now != was {
		t.Errorf("%s became %s", was, now)
	}
}

// TestRoomsAreApart (R5): what is done to one room is told by no other one.
func TestRoomsAreApart(t *testing.T) {
	h, other := forked(t), forked(t)
	was := look(other.Room)
	h.put(title(ann, "x"), 6, 7, 8)
	h.bad(with(h.draft(message(bob), 5), func(e *api.Event) { e.Depth = 0 }))
	unchanged(t, "the other room", other.Room, was)
}

// TestTheSameEachTime (R5): asked twice, by several at once, of rooms that were made alike.
func TestTheSameEachTime(t *testing.T) {
	for seed := range int64(5) {
		h, _ := chance(t, rand.New(rand.NewSource(seed)), 30)
		other, _ := chance(t, rand.New(rand.NewSource(seed)), 30)
		want := look(h.Room)
		var all sync.WaitGroup
		got := make([][]string, 8)
		for i := range got {
			all.Go(func() {
				if i%2 == 0 {
					got[i] = look(h.Room)
				} else {
					got[i] = look(other.Room)
				}
			})
		}
		all.Wait()
		for i, l := range got {
			if !slices.Equal(l, want) {
				t.Fatalf("answer %d: %v, not %v", i, l, want)
			}
		}
	}
}
