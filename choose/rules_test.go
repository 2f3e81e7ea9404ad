package choose

import (
	"fmt"
	"math/rand"
	"reflect"
	"slices"
	"strings"
	"sync"
	"testing"

	"agora/api"
	"agora/room"
)

// TestLongRoom (R1): a state of very many spots, behind very many events.
func TestLongRoom(t *testing.T) {
	const n = 3000
	h := begun(t)
	last := 5
	for i := range n {
		last = h.put(joined(fmt.Sprintf("@u%d:x%d", i, i%100)), last)
	}
	for i, sender := range []string{"@u0:x0", "@u2999:x99", bob} {
		d := h.drafts("message", message(sender), 2)
		equal(t, "prev", d.Prev, h.names(last))
		if len(d.Auth) != 3 || d.Depth != int64(n+6+i) {
			t.Errorf("sender %d: %+v", i, d)
		}
		h.settles("message", d)
		last = h.Len() - 1
	}
	refuses(t, "not joined", h.Room, message("@u3000:x0"), 2, api.ErrDenied)
}

// TestWideRoom (R1): very many heads.
func TestWideRoom(t *testing.T) {
	const n = 3000
	h := begun(t)
	for i := range n {
		h.put(with(message(bob), func(e *api.Event) { e.Ts = int64(i) }), 5)
	}
	if l := Prevs(h.Room, n); len(l) != n || !slices.IsSorted(l) {
		t.Errorf("%d", len(l))
	}
	equal(t, "some", Prevs(h.Room, 40), leastNames(h.Room, 40))
	if !Due(h.Room, n-1) || Due(h.Room, n) {
		t.Error("due")
	}
	for range 20 {
		d, err := Dummy(h.Room, here, ann, 1, api.MaxPrev)
		if err != api.OK || len(d.Prev) != api.MaxPrev {
			t.Fatalf("error %d, %d", err, len(d.Prev))
		}
		h.settles("dummy", d)
	}
}

// leastNames tells Prevs of a room all of whose heads are of one depth.
func leastNames(r *room.Room, most int) []int {
	var names []string
	for _, i := range r.Heads() {
		names = append(names, r.Known(i).Name)
	}
	slices.Sort(names)
	var l []int
	for _, n := range names[:most] {
		i, _ := r.Place(n)
		l = append(l, i)
	}
	slices.Sort(l)
	return l
}

// ring tells a map that holds itself.
func ring() api.Json {
	l := make([]api.Json, 1)
	l[0] = api.Json{Kind: api.JMap, Keys: []string{"membership"}, List: l}
	return l[0]
}

// TestAnyContents (R1): contents that hold themselves, are deep, or are of any parts.
func TestAnyContents(t *testing.T) {
	deep := api.Json{Kind: api.JList}
	for range 10000 {
		deep = api.Json{Kind: api.JList, List: []api.Json{deep}}
	}
	for _, h := range []*house{forked(t), empty(t)} {
		for i, c := range []api.Json{ring(), deep, {Kind: api.JMap, Keys: []string{"x"}, List: []api.Json{deep}}, {Kind: -1}, {Kind: 9}, {Kind: api.JMap, Keys: []string{"x"}}, {Kind: api.JMap, List: []api.Json{{}}}, {Kind: api.JMap, Int: 1}} {
			for _, e := range []api.Event{message(bob), joined(bob), create(ann), title(ann, "x")} {
				e.Content = c
				refuses(t, fmt.Sprint("content ", i), h.Room, e, 3, api.ErrShape)
			}
		}
	}
	// As deep as an event's content may be.
	nested := value(`{"body":` + strings.Repeat("[", api.MaxDepth-2) + strings.Repeat("]", api.MaxDepth-2) + `}`)
	h := begun(t)
	for _, c := range []api.Json{nested, {Kind: api.JMap, Keys: []string{"x"}, List: []api.Json{nested}}} {
		e := with(message(bob), func(e *api.Event) { e.Content = c })
		want, err := modelDraft(h.Room, e, 2)
		got, error := Draft(h.Room, e, 2)
		if error != err {
			t.Errorf("error %d, not %d", error, err)
		}
		alike(t, "nested", got, want)
	}
}

// TestAnyParts (R1, R2): events of any parts: no call panics, and none changes anything.
func TestAnyParts(t *testing.T) {
	r := rand.New(rand.NewSource(1))
	texts := []string{"", "x", here, "!q:s1", ann, bob, cat, nameAt(0), api.TMember, api.TCreate, api.TMessage, api.TPower, "\xff", strings.Repeat("a", 200)}
	text := func() string { return pick(r, texts...) }
	row := func() (l []string) {
		for range r.Intn(4) {
			l = append(l, text())
		}
		return l
	}
	h := forked(t)
	rooms := append(bare(), nil, h.Room, h.Room, h.Room, empty(t).Room, unheaded(t).Room)
	was := look(h.Room)
	for range 5000 {
		e := api.Event{Room: pick(r, here, text()), Type: text(), Sender: pick(r, ann, text()), IsState: r.Intn(2) == 0, Key: pick(r, "", text()), Prev: row(), Auth: row(), Depth: int64(r.Intn(9) - 2), Ts: pick(r, 5, r.Int63(), -r.Int63()), Hash: text()}
		e.Content = pick(r, api.Json{}, ring(), value(`{}`), value(`{"membership":"join"}`), value(`{"creator":"@ann:s1"}`))
		in, most := pick(r, rooms...), pick(r, 1, 2, 3, r.Intn(30)-5, r.Int(), -r.Int())
		want, err := modelDraft(in, e, most)
		got, error := Draft(in, e, most)
		if error != err {
			t.Fatalf("error %d, not %d: most %d, %+v", error, err, most, e)
		}
		if err != api.OK && !reflect.DeepEqual(got, api.Event{}) {
			t.Fatalf("beside error %d: %+v", err, got)
		}
		if err == api.OK {
			alike(t, "draft", got, want)
		}
		Dummy(in, text(), text(), e.Ts, most)
		Due(in, most)
		Prevs(in, most)
	}
	unchanged(t, "any calls", h.Room, was)
}

// TestEmptyListsAreTheSame (R3): rows that are nil or of length 0, in the event and in the room.
func TestEmptyListsAreTheSame(t *testing.T) {
	h, other := forked(t), empty(t)
	for i := range h.Len() {
		k := h.Known(i)
		k.Event = filled(k.Event)
		other.add(k.Name, k.Event)
	}
	for _, e := range []api.Event{message(bob), title(ann, "x"), plain(api.TDummy, ann, `{}`), joined(dan)} {
		for most := range 6 {
			want, err := Draft(h.Room, e, most)
			got, error := Draft(other.Room, filled(e), most)
			if err != error {
				t.Errorf("error %d, not %d", error, err)
			}
			alike(t, "empty rows", got, want)
		}
	}
}

// roomy tells the same row with something behind its end.
func roomy[T any](l []T, behind T) []T {
	return append(append(make([]T, 0, len(l)+2), l...), behind, behind)[:len(l)]
}

func roomyJson(j api.Json) api.Json {
	l := roomy(j.List, api.Json{Kind: 77})
	for i := range l {
		l[i] = roomyJson(l[i])
	}
	j.Keys, j.List = roomy(j.Keys, "behind"), l
	return j
}

func roomyEvent(e api.Event) api.Event {
	e.Prev, e.Auth, e.Sigs = roomy(e.Prev, nameAt(1)), roomy(e.Auth, nameAt(1)), roomy(e.Sigs, api.Sig{Server: "behind"})
	e.Content = roomyJson(e.Content)
	return e
}

// whole tells all memory of a value as a text, with what lies behind the ends of its rows.
func whole(j api.Json) string {
	s := fmt.Sprint(j.Kind, j.Int, j.Text, j.Keys[:cap(j.Keys)])
	for _, v := range j.List[:cap(j.List)] {
		s += " [" + whole(v) + "]"
	}
	return s
}

func wholeEvent(e api.Event) string {
	rows := fmt.Sprint(e.Prev[:cap(e.Prev)], e.Auth[:cap(e.Auth)], e.Sigs[:cap(e.Sigs)])
	return rows + whole(e.Content) + fmt.Sprint(e.Room, e.Type, e.Sender, e.IsState, e.Key, e.Depth, e.Ts, e.Hash)
}

// spoil writes over a row, and over what lies behind its end.
func spoil[T any](l []T, with T) {
	l = l[:cap(l)]
	for i := range l {
		l[i] = with
	}
}

func spoilJson(j api.Json) {
	for _, v := range j.List {
		spoilJson(v)
	}
	spoil(j.Keys, "spoilt")
	spoil(j.List, api.Json{Kind: 77})
}

func spoilEvent(e api.Event) {
	spoil(e.Prev, "spoilt")
	spoil(e.Auth, "spoilt")
	spoil(e.Sigs, api.Sig{Server: "spoilt"})
	spoilJson(e.Content)
}

// drawn are events to draft in the forked room, some of which are refused; each call makes them anew.
func drawn() []api.Event {
	nested := value(`{"z":[{"b":[1]}],"body":"x","a":{"y":["x",{}]}}`)
	nested.Keys[0], nested.Keys[2], nested.List[0], nested.List[2] = nested.Keys[2], nested.Keys[0], nested.List[2], nested.List[0]
	return []api.Event{
		with(message(bob), func(e *api.Event) { e.Content = nested }),
		with(member(ann, dan, "invite"), func(e *api.Event) {
			e.Prev, e.Auth, e.Sigs = []string{nameAt(0)}, []string{nameAt(2), nameAt(1)}, []api.Sig{{Server: "s1", Token: "AAAAAAAAAAE"}}
		}),
		message(dan), with(message(bob), long), create(ann), gives(ann, 20, 10), {},
	}
}

// TestHandedInIsNotChanged (R4): neither events, with what lies behind the ends of their rows, nor the room.
func TestHandedInIsNotChanged(t *testing.T) {
	h := forked(t)
	was := look(h.Room)
	for i, e := range drawn() {
		for _, r := range []*room.Room{h.Room, empty(t).Room, nil} {
			for _, most := range []int{0, 1, 4, 5} {
				e := roomyEvent(e)
				before := wholeEvent(e)
				d, _ := Draft(r, e, most)
				Dummy(r, e.Room, e.Sender, e.Ts, most)
				if now := wholeEvent(e); now != before {
					t.Errorf("event %d: %s became %s", i, before, now)
				}
				_ = append(d.Content.Keys, "behind")
				spoilEvent(d)
				if now := wholeEvent(e); now != before {
					t.Errorf("event %d, once what was told is written over: %s became %s", i, before, now)
				}
			}
		}
	}
	unchanged(t, "drafted", h.Room, was)
}

// TestHandedInIsNotKept (R4): who writes over what they handed in changes no draft.
func TestHandedInIsNotKept(t *testing.T) {
	h := forked(t)
	for i, e := range drawn() {
		e = roomyEvent(e)
		d, _ := Draft(h.Room, e, 4)
		told := fmt.Sprintf("%+v", d)
		spoilEvent(e)
		if now := fmt.Sprintf("%+v", d); now != told {
			t.Errorf("event %d: %s became %s", i, told, now)
		}
	}
}

// TestHandedOutIsNew (R4): who writes over what was told changes neither the room, nor another answer.
func TestHandedOutIsNew(t *testing.T) {
	h := forked(t)
	was := look(h.Room)
	for most := 1; most < 7; most++ {
		for i, e := range drawn() {
			d, _ := Draft(h.Room, e, most)
			again, _ := Draft(h.Room, e, most)
			told := fmt.Sprintf("%+v", again)
			spoilEvent(d)
			third, _ := Draft(h.Room, drawn()[i], most)
			if fmt.Sprintf("%+v", again) != told || fmt.Sprintf("%+v", third) != told {
				t.Fatalf("%s became %+v, %+v", told, again, third)
			}
		}
		one, _ := Dummy(h.Room, here, ann, 1, most)
		told := fmt.Sprintf("%+v", one)
		other, _ := Dummy(h.Room, here, ann, 1, most)
		spoilEvent(other)
		other.Content.Keys = append(other.Content.Keys, "x")
		if third, _ := Dummy(h.Room, here, ann, 1, most); fmt.Sprintf("%+v", one) != told || fmt.Sprintf("%+v", third) != told {
			t.Fatalf("%s became %+v, %+v", told, one, third)
		}
		l := Prevs(h.Room, most)
		spoil(Prevs(h.Room, most), -7)
		equal(t, "prevs", Prevs(h.Room, most), l)
		unchanged(t, "written over", h.Room, was)
	}
}

// TestAnswersStay (R4, R5): what was drafted stays as it was, whatever comes; and the room's event stays, whatever is done to the draft.
func TestAnswersStay(t *testing.T) {
	h := forked(t)
	d := h.drafts("message", drawn()[0], 4)
	l, told := Prevs(h.Room, 4), fmt.Sprintf("%+v", d)
	for range 5 {
		h.put(title(ann, "x"), h.Heads()[0])
	}
	if _, denied := h.add(nameAt(h.Len()), d); denied {
		t.Errorf("denied: %+v", d)
	}
	if now := fmt.Sprintf("%+v", d); now != told {
		t.Errorf("%s became %s", told, now)
	}
	is(t, "prevs", l, "7 8 9 10")
	was := look(h.Room)
	spoilEvent(d)
	unchanged(t, "the draft is written over", h.Room, was)
}

// TestTheSameEachTime (R5): asked twice, by several at once, of rooms that were made alike, and of those that were asked much ahead.
func TestTheSameEachTime(t *testing.T) {
	for seed := range int64(5) {
		h, other := chance(t, rand.New(rand.NewSource(seed)), 40), chance(t, rand.New(rand.NewSource(seed)), 40)
		ask := func(r *room.Room) (l []string) {
			for most := -1; most < 8; most++ {
				for _, e := range drawn() {
					d, err := Draft(r, e, most)
					l = append(l, fmt.Sprintf("%+v %d", d, err))
				}
				d, err := Dummy(r, here, ann, 5, most)
				l = append(l, fmt.Sprintf("%+v %d %v %t", d, err, Prevs(r, most), Due(r, most)))
			}
			return l
		}
		want := ask(h.Room)
		var all sync.WaitGroup
		got := make([][]string, 8)
		for i := range got {
			all.Go(func() { got[i] = ask(pick(rand.New(rand.NewSource(int64(i))), h.Room, other.Room)) })
		}
		all.Wait()
		for i, l := range got {
			if !slices.Equal(l, want) {
				t.Fatalf("answer %d: %v, not %v", i, l, want)
			}
		}
	}
}

// TestOrderDoesNotCount (R5, 14.4): of the same events, in whatever order they came, the same is drafted; its Prev is told in another order alone.
func TestOrderDoesNotCount(t *testing.T) {
	h := forked(t)
	for _, text := range []string{"0 1 2 3 4 5 10 9 8 7 6", "0 1 2 3 4 5 8 6 10 7 9"} {
		other := empty(t)
		for _, i := range row(t, text) {
			other.add(h.Known(i).Name, h.Known(i).Event)
		}
		for _, e := range drawn() {
			for most := 1; most < 7; most++ {
				want, err := Draft(h.Room, e, most)
				got, error := Draft(other.Room, e, most)
				if err != error {
					t.Errorf("error %d, not %d", error, err)
				}
				equal(t, "in order", got.Prev, other.names(Prevs(other.Room, most)...)[:len(got.Prev)])
				slices.Sort(got.Prev)
				slices.Sort(want.Prev)
				alike(t, "another order", got, want)
			}
		}
	}
}
