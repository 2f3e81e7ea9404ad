package room

import (
	"encoding/base64"
	"encoding/binary"
	"fmt"
	"math"
	"math/rand"
	"slices"
	"strconv"
	"strings"
	"testing"

	"agora/api"
	"agora/auth"
	"agora/canon"
)

// The room of these tests, and its users. Ann made it; dan is of her server.
const (
	here = "!r:s1"
	ann  = "@ann:s1"
	bob  = "@bob:s2"
	cat  = "@cat:s3"
	dan  = "@dan:s1"
)

func users() []string { return []string{ann, bob, cat, dan} }

// value tells what a text of JSON says.
func value(s string) api.Json {
	j, err, at := canon.Decode([]byte(s))
	if err != api.OK {
		panic(fmt.Sprintf("%s: error %d at %d", s, err, at))
	}
	return j
}

// name tells an event's name by a number.
func name(n int) string {
	return "$" + base64.RawStdEncoding.EncodeToString(binary.BigEndian.AppendUint64(nil, uint64(n)))
}

// plain tells an event that is not of a state.
func plain(kind, sender, content string) api.Event {
	return api.Event{Room: here, Type: kind, Sender: sender, Content: value(content)}
}

// of tells an event of a state.
func of(kind, key, sender, content string) api.Event {
	e := plain(kind, sender, content)
	e.IsState, e.Key = true, key
	return e
}

func create(sender string) api.Event { return of(api.TCreate, "", sender, `{"creator":"`+sender+`"}`) }

// member tells what a sender makes of a user's membership.
func member(sender, user, membership string) api.Event {
	return of(api.TMember, user, sender, `{"membership":"`+membership+`"}`)
}

func joined(user string) api.Event { return member(user, user, "join") }

func rule(sender, r string) api.Event { return of(api.TRules, "", sender, `{"join_rule":"`+r+`"}`) }

func title(sender, s string) api.Event { return of(api.TName, "", sender, `{"name":"`+s+`"}`) }

func message(sender string) api.Event { return plain(api.TMessage, sender, `{"body":"x"}`) }

// gives tells levels by which ann has 100, bob and cat have these, names may be set by all, and other things as usual.
func gives(sender string, bobs, cats int) api.Event {
	return of(api.TPower, "", sender, fmt.Sprintf(`{"events":{"m.room.name":0},"users":{"@ann:s1":100,"@bob:s2":%d,"@cat:s3":%d}}`, bobs, cats))
}

// with tells an event with something done to it.
func with(e api.Event, do ...func(e *api.Event)) api.Event {
	for _, d := range do {
		d(&e)
	}
	return e
}

// house is a room that a test builds; what comes to place i has the name name(1000 + i).
type house struct {
	t *testing.T
	*Room
}

func empty(t *testing.T) *house {
	t.Helper()
	r, err := New(here)
	if err != api.OK || r == nil {
		t.Fatalf("error %d", err)
	}
	return &house{t, r}
}

func nameAt(i int) string { return name(1000 + i) }

// names tells the names of places.
func names(places ...int) []string {
	var l []string
	for _, i := range places {
		l = append(l, nameAt(i))
	}
	return l
}

// slot tells where in a state the type and key stand; -1, if they do not.
func slot(s []api.Spot, kind, key string) int {
	return slices.IndexFunc(s, func(one api.Spot) bool { return one.Type == kind && one.Key == key })
}

// draft tells an event that follows these places as whoever is honest makes it: as deep as it is, and leaning on what it hangs on in the state that comes of them.
func (h *house) draft(e api.Event, prev ...int) api.Event {
	var depths []int64
	for _, i := range prev {
		k := h.Known(i)
		e.Prev, depths = append(e.Prev, k.Name), append(depths, k.Event.Depth)
	}
	e.Depth, e.Ts = Height(depths), int64(h.Len())
	s := h.Come(prev)
	for _, w := range auth.Wanted(e) {
		if k := slot(s, w.Type, w.Key); k >= 0 {
			e.Auth = append(e.Auth, h.Known(s[k].At).Name)
		}
	}
	return e
}

// add puts an event in as it stands; it must be taken. It answers its place, and whether it is denied.
func (h *house) add(e api.Event) (int, bool) {
	h.t.Helper()
	at := h.Len()
	denied, err := h.Add(api.Known{Name: nameAt(at), Event: e})
	if err != api.OK || h.Len() != at+1 {
		h.t.Fatalf("place %d: error %d: %+v", at, err, e)
	}
	if h.Denied(at) != denied {
		h.t.Fatalf("place %d: denied %t, then %t", at, denied, !denied)
	}
	return at, denied
}

// put drafts an event, and puts it in; it must not be denied. It answers its place.
func (h *house) put(e api.Event, prev ...int) int {
	h.t.Helper()
	at, denied := h.add(h.draft(e, prev...))
	if denied {
		h.t.Fatalf("place %d is denied: %+v", at, h.Known(at))
	}
	return at
}

// bad puts an event in that must be denied. It answers its place.
func (h *house) bad(e api.Event) int {
	h.t.Helper()
	at, denied := h.add(e)
	if !denied {
		h.t.Fatalf("place %d is not denied: %+v", at, h.Known(at))
	}
	return at
}

// begun is a room as it usually begins: everybody may join, and bob has 50.
//
//	0 created by ann, 1 ann joins, 2 levels by ann, 3 the rule by ann, 4 bob joins, 5 cat joins
func begun(t *testing.T) *house {
	t.Helper()
	h := empty(t)
	h.put(create(ann))
	for i, e := range []api.Event{joined(ann), gives(ann, 50, 0), rule(ann, "public"), joined(bob), joined(cat)} {
		h.put(e, i)
	}
	return h
}

// forked is how that room goes on, in branches that all follow 5.
//
//	6 cat is banned by ann, 7 cat sets a name, 8 bob sets a name, 9 levels by ann (cat has 20), 10 a message by bob
func forked(t *testing.T) *house {
	t.Helper()
	h := begun(t)
	for _, e := range []api.Event{member(ann, cat, "ban"), title(cat, "cat's"), title(bob, "bob's"), gives(ann, 50, 20), message(bob)} {
		h.put(e, 5)
	}
	return h
}

// row reads numbers with blanks between.
func row(t *testing.T, text string) []int {
	t.Helper()
	var l []int
	for _, s := range strings.Fields(text) {
		n, err := strconv.Atoi(s)
		if err != nil {
			t.Fatal(err)
		}
		l = append(l, n)
	}
	return l
}

// first tells by types, then by keys, whether a spot stands ahead of another one.
func first(a, b api.Spot) bool { return a.Type < b.Type || a.Type == b.Type && a.Key < b.Key }

// ordered tells spots in order, each put where it belongs.
func ordered(l []api.Spot) []api.Spot {
	var out []api.Spot
	for _, one := range l {
		at := 0
		for at < len(out) && first(out[at], one) {
			at++
		}
		out = slices.Insert(out, at, one)
	}
	return out
}

// stateOf tells the state that places of a room make, written as a text.
func (h *house) stateOf(text string) []api.Spot {
	h.t.Helper()
	var l []api.Spot
	for _, i := range row(h.t, text) {
		e := h.Known(i).Event
		l = append(l, api.Spot{Type: e.Type, Key: e.Key, At: i})
	}
	return ordered(l)
}

// short tells a row in not too many letters.
func short[T any](l []T) string {
	if len(l) > 30 {
		return fmt.Sprintf("%+v .. of %d", l[:30], len(l))
	}
	return fmt.Sprintf("%+v", l)
}

// equal tells whether two rows are the same, where none and an empty one are.
func equal[T comparable](t *testing.T, what string, got, want []T) {
	t.Helper()
	if !slices.Equal(got, want) {
		t.Errorf("%s: %s, not %s", what, short(got), short(want))
	}
}

// is holds a row of places to one that is written as a text.
func is(t *testing.T, what string, got []int, want string) {
	t.Helper()
	equal(t, what, got, row(t, want))
}

// stands holds a state to one whose places are written as a text.
func (h *house) stands(what string, got []api.Spot, want string) {
	h.t.Helper()
	equal(h.t, what, got, h.stateOf(want))
}

// nowhere tells places that no room of n events has.
func nowhere(n int) []int {
	return []int{-1, -2, -n - 1, n, n + 1, 2*n + 1, math.MaxInt, math.MaxInt - 1, math.MinInt, math.MinInt + 1, 1 << 32, -1 << 32, 1<<32 + n}
}

// bare tells rooms that New did not make.
func bare() []*Room { return []*Room{nil, {}, new(Room)} }

// look tells all that the calls tell of a room: a line for each place, and one of the whole.
func look(r *Room) []string {
	var l []string
	p := r.Past()
	for i := range r.Len() {
		at, ok := r.Place(r.Known(i).Name)
		l = append(l, fmt.Sprintf("%d %t: %+v, denied %t, ahead %+v, behind %+v, comes %+v; past: %s %+v %v %v %t",
			at, ok, r.Known(i), r.Denied(i), r.Ahead(i), r.Behind(i), r.Come([]int{i}), p.Names[i], p.Events[i], p.Prev[i], p.Auth[i], p.Denied[i]))
	}
	whole := fmt.Sprintf("%s, %d, heads %v, state %+v, residents %v", r.Id(), r.Len(), r.Heads(), r.State(), r.Residents())
	for _, one := range r.State() {
		k, ok := r.Event(one.Type, one.Key)
		whole += fmt.Sprintf(", %+v %t", k, ok)
	}
	return append(l, whole)
}

// unchanged tells whether a room is as it was.
func unchanged(t *testing.T, what string, r *Room, was []string) {
	t.Helper()
	now := look(r)
	if len(now) != len(was) {
		t.Fatalf("%s: %d events became %d", what, len(was)-1, len(now)-1)
	}
	for i := range now {
		if now[i] != was[i] {
			t.Fatalf("%s: %s became %s", what, was[i], now[i])
		}
	}
}

// pick tells one of a row by chance.
func pick[T any](r *rand.Rand, row ...T) T { return row[r.Intn(len(row))] }
