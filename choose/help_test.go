package choose

import (
	"encoding/base64"
	"encoding/binary"
	"fmt"
	"math/rand"
	"reflect"
	"slices"
	"strconv"
	"strings"
	"testing"

	"agora/api"
	"agora/auth"
	"agora/canon"
	"agora/room"
)

// The room of these tests, and its users. Ann made it; dan is of her server.
const (
	here = "!r:s1"
	ann  = "@ann:s1"
	bob  = "@bob:s2"
	cat  = "@cat:s3"
	dan  = "@dan:s1"
)

// value tells what a text of JSON says.
func value(s string) api.Json {
	j, err, at := canon.Decode([]byte(s))
	if err != api.OK {
		panic(fmt.Sprintf("%s: error %d at %d", s, err, at))
	}
	return j
}

// name tells an event's name by a number.
func name(n int) string {
	return "$" + base64.RawStdEncoding.EncodeToString(binary.BigEndian.AppendUint64(nil, uint64(n)))
}

func nameAt(i int) string { return name(1000 + i) }

// lettered tells an event's name that begins with these letters.
func lettered(letters string) string { return "$" + letters + strings.Repeat("A", 11-len(letters)) }

// plain tells an event that is not of a state.
func plain(kind, sender, content string) api.Event {
	return api.Event{Room: here, Type: kind, Sender: sender, Content: value(content)}
}

// of tells an event of a state.
func of(kind, key, sender, content string) api.Event {
	e := plain(kind, sender, content)
	e.IsState, e.Key = true, key
	return e
}

func create(sender string) api.Event { return of(api.TCreate, "", sender, `{"creator":"`+sender+`"}`) }

// member tells what a sender makes of a user's membership.
func member(sender, user, membership string) api.Event {
	return of(api.TMember, user, sender, `{"membership":"`+membership+`"}`)
}

func joined(user string) api.Event { return member(user, user, "join") }

func rule(sender, r string) api.Event { return of(api.TRules, "", sender, `{"join_rule":"`+r+`"}`) }

func title(sender, s string) api.Event { return of(api.TName, "", sender, `{"name":"`+s+`"}`) }

func message(sender string) api.Event { return plain(api.TMessage, sender, `{"body":"x"}`) }

// gives tells levels by which ann has 100, bob and cat have these, names may be set by all, and other things as usual.
func gives(sender string, bobs, cats int) api.Event {
	return of(api.TPower, "", sender, fmt.Sprintf(`{"events":{"m.room.name":0},"users":{"@ann:s1":100,"@bob:s2":%d,"@cat:s3":%d}}`, bobs, cats))
}

// with tells an event with something done to it.
func with(e api.Event, do ...func(e *api.Event)) api.Event {
	for _, d := range do {
		d(&e)
	}
	return e
}

// house is a room that a test builds. What comes to place i has the name nameAt(i), if a test does not name it itself.
type house struct {
	t *testing.T
	*room.Room
}

func empty(t *testing.T) *house {
	t.Helper()
	r, err := room.New(here)
	if err != api.OK || r == nil {
		t.Fatalf("error %d", err)
	}
	return &house{t, r}
}

// names tells the names of places.
func (h *house) names(places ...int) []string {
	var l []string
	for _, i := range places {
		l = append(l, h.Known(i).Name)
	}
	return l
}

// slot tells where in a state the type and key stand; -1, if they do not.
func slot(s []api.Spot, kind, key string) int {
	return slices.IndexFunc(s, func(one api.Spot) bool { return one.Type == kind && one.Key == key })
}

// made tells an event that follows these places, and leans on what it hangs on in the state that comes of them.
func (h *house) made(e api.Event, prev ...int) api.Event {
	var depths []int64
	for _, i := range prev {
		k := h.Known(i)
		e.Prev, depths = append(e.Prev, k.Name), append(depths, k.Event.Depth)
	}
	e.Depth = room.Height(depths)
	s := h.Come(prev)
	for _, w := range auth.Wanted(e) {
		if k := slot(s, w.Type, w.Key); k >= 0 {
			e.Auth = append(e.Auth, h.Known(s[k].At).Name)
		}
	}
	return e
}

// add puts an event in under a name; it must be taken. It answers its place, and whether it is denied.
func (h *house) add(named string, e api.Event) (int, bool) {
	h.t.Helper()
	at := h.Len()
	denied, err := h.Add(api.Known{Name: named, Event: e})
	if err != api.OK || h.Len() != at+1 {
		h.t.Fatalf("place %d: error %d: %s, %+v", at, err, named, e)
	}
	return at, denied
}

// puts makes an event under a name, and puts it in; it must not be denied. It answers its place.
func (h *house) puts(named string, e api.Event, prev ...int) int {
	h.t.Helper()
	at, denied := h.add(named, h.made(e, prev...))
	if denied {
		h.t.Fatalf("place %d is denied: %+v", at, h.Known(at))
	}
	return at
}

// put does the same under the name of the place.
func (h *house) put(e api.Event, prev ...int) int {
	h.t.Helper()
	return h.puts(nameAt(h.Len()), e, prev...)
}

// bad puts an event in that must be denied. It answers its place.
func (h *house) bad(e api.Event) int {
	h.t.Helper()
	at, denied := h.add(nameAt(h.Len()), e)
	if !denied {
		h.t.Fatalf("place %d is not denied: %+v", at, h.Known(at))
	}
	return at
}

// lies puts an event in that follows a place and has a depth that is told wrong: it leans on nothing, and is denied.
func (h *house) lies(depth int64, prev int) int {
	h.t.Helper()
	return h.bad(with(message(ann), func(e *api.Event) { e.Prev, e.Depth = h.names(prev), depth }))
}

// head puts in a head of that depth and name, behind 1: what lies about its depth makes others deep.
func (h *house) head(depth int64, named string) int {
	h.t.Helper()
	at := h.puts(named, message(ann), 1, h.lies(depth-1, 1))
	if got := h.Known(at).Event.Depth; got != depth {
		h.t.Fatalf("a depth of %d, not %d", got, depth)
	}
	return at
}

// small is a room of its creator alone: 0 created by ann, 1 ann joins.
func small(t *testing.T) *house {
	t.Helper()
	h := empty(t)
	h.put(create(ann))
	h.put(joined(ann), 0)
	return h
}

// begun is a room as it usually begins: everybody may join, and bob has 50.
//
//	0 created by ann, 1 ann joins, 2 levels by ann, 3 the rule by ann, 4 bob joins, 5 cat joins
func begun(t *testing.T) *house {
	t.Helper()
	h := small(t)
	for i, e := range []api.Event{gives(ann, 50, 0), rule(ann, "public"), joined(bob), joined(cat)} {
		h.put(e, i+1)
	}
	return h
}

// forked is how that room goes on, in branches that all follow 5 and are of one depth. By their names 7 is the eldest, then 9, 8, 10, 6.
//
//	6 cat is banned by ann, 7 cat sets a name, 8 bob sets a name, 9 levels by ann (cat has 20), 10 a message by bob
func forked(t *testing.T) *house {
	t.Helper()
	h := begun(t)
	for i, e := range []api.Event{member(ann, cat, "ban"), title(cat, "cat's"), title(bob, "bob's"), gives(ann, 50, 20), message(bob)} {
		h.puts(lettered("eacbd"[i:i+1]), e, 5)
	}
	return h
}

// row reads numbers with blanks between.
func row(t *testing.T, text string) []int {
	t.Helper()
	var l []int
	for _, s := range strings.Fields(text) {
		n, err := strconv.Atoi(s)
		if err != nil {
			t.Fatal(err)
		}
		l = append(l, n)
	}
	return l
}

// equal tells whether two rows are the same, where none and an empty one are.
func equal[T comparable](t *testing.T, what string, got, want []T) {
	t.Helper()
	if !slices.Equal(got, want) {
		t.Errorf("%s: %v, not %v", what, got, want)
	}
}

// is holds a row of places to one that is written as a text.
func is(t *testing.T, what string, got []int, want string) {
	t.Helper()
	equal(t, what, got, row(t, want))
}

// alike holds an event to another one; a row that is empty may be nil.
func alike(t *testing.T, what string, got, want api.Event) {
	t.Helper()
	if fmt.Sprintf("%#v", filled(got)) != fmt.Sprintf("%#v", filled(want)) {
		t.Errorf("%s: %+v, not %+v", what, got, want)
	}
}

// filled tells an event whose rows are not nil.
func filled(e api.Event) api.Event {
	e.Prev, e.Auth, e.Sigs = append([]string{}, e.Prev...), append([]string{}, e.Auth...), append([]api.Sig{}, e.Sigs...)
	e.Content = filledJson(e.Content)
	return e
}

func filledJson(j api.Json) api.Json {
	j.Keys, j.List = append([]string{}, j.Keys...), append([]api.Json{}, j.List...)
	for i, v := range j.List {
		j.List[i] = filledJson(v)
	}
	return j
}

// drafts drafts an event, of which there must be no error.
func (h *house) drafts(what string, e api.Event, most int) api.Event {
	h.t.Helper()
	d, err := Draft(h.Room, e, most)
	if err != api.OK {
		h.t.Fatalf("%s: error %d: %+v", what, err, e)
	}
	return d
}

// refuses holds a draft to an error, beside which there is nothing.
func refuses(t *testing.T, what string, r *room.Room, e api.Event, most int, want api.Errno) {
	t.Helper()
	d, err := Draft(r, e, most)
	if err != want {
		t.Errorf("%s: error %d, not %d", what, err, want)
	}
	if !reflect.DeepEqual(d, api.Event{}) {
		t.Errorf("%s: beside error %d: %+v", what, err, d)
	}
}

// bare tells rooms that New did not make, but for nil.
func bare() []*room.Room { return []*room.Room{{}, new(room.Room)} }

// look tells all that the calls tell of a room: a line for each place, and one of the whole.
func look(r *room.Room) []string {
	var l []string
	for i := range r.Len() {
		l = append(l, fmt.Sprintf("%d: %+v, denied %t, ahead %+v, behind %+v", i, r.Known(i), r.Denied(i), r.Ahead(i), r.Behind(i)))
	}
	return append(l, fmt.Sprintf("%s, %d, heads %v, state %+v, past %+v", r.Id(), r.Len(), r.Heads(), r.State(), r.Past()))
}

// unchanged tells whether a room is as it was.
func unchanged(t *testing.T, what string, r *room.Room, was []string) {
	t.Helper()
	now := look(r)
	if len(now) != len(was) {
		t.Fatalf("%s: %d events became %d", what, len(was)-1, len(now)-1)
	}
	for i := range now {
		if now[i] != was[i] {
			t.Fatalf("%s: %s became %s", what, was[i], now[i])
		}
	}
}

// pick tells one of a row by chance.
func pick[T any](r *rand.Rand, row ...T) T { return row[r.Intn(len(row))] }
