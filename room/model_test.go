package room

import (
	"fmt"
	"math/rand"
	"slices"
	"testing"

	"agora/api"
	"agora/auth"
	"agora/event"
	"agora/ident"
	"agora/resolve"
)

// The reasons to deny, as the model tells them.
const (
	byDepth    = "depth"
	byDenied   = "leans on a denied one"
	byNoState  = "leans on one that is not of a state"
	byUnwanted = "leans on one that is not wanted"
	byTwice    = "leans on two of one type and key"
	byNoCreate = "leans on no create event"
	byNoPrev   = "follows nothing"
	byLeant    = "judged by what it leans on"
	byAhead    = "judged by the state ahead"
)

// model is the chapter's words, gone through one by one.
type model struct {
	id     string
	known  []api.Known
	denied []bool
	ahead  [][]api.Spot
	behind [][]api.Spot
	why    [][]string
}

func (m *model) place(name string) int {
	return slices.IndexFunc(m.known, func(k api.Known) bool { return k.Name == name })
}

// row tells the places of names, rising; and whether all have one.
func (m *model) row(names []string) ([]int, bool) {
	var l []int
	for i, k := range m.known {
		if slices.Contains(names, k.Name) {
			l = append(l, i)
		}
	}
	return l, len(l) == len(names)
}

// past tells chapter 12's past.
func (m *model) past() api.Past {
	var p api.Past
	for i, k := range m.known {
		prev, _ := m.row(k.Event.Prev)
		leant, _ := m.row(k.Event.Auth)
		p.Names, p.Events, p.Denied = append(p.Names, k.Name), append(p.Events, k.Event), append(p.Denied, m.denied[i])
		p.Prev, p.Auth = append(p.Prev, prev), append(p.Auth, leant)
	}
	return p
}

func (m *model) come(l []int) []api.Spot {
	var states [][]api.Spot
	for i := range m.known {
		if slices.Contains(l, i) {
			states = append(states, m.behind[i])
		}
	}
	s, err := resolve.Resolve(m.past(), states)
	if err != api.OK {
		panic(fmt.Sprint("error ", err))
	}
	return s
}

// knowns tells events of places.
func (m *model) knowns(l []int) []api.Known {
	var out []api.Known
	for _, i := range l {
		out = append(out, m.known[i])
	}
	return out
}

func modelHeight(l []int64) int64 {
	if len(l) == 0 {
		return 0
	}
	h := l[0]
	for _, n := range l {
		if n > h {
			h = n
		}
	}
	switch {
	case h >= api.MaxHeight:
		return api.MaxHeight
	case h < 0:
		return 0
	}
	return h + 1
}

// reasons tells why an event is denied that follows and leans on these, behind that state.
func (m *model) reasons(e api.Event, prev, leant []int, s []api.Spot) []string {
	var l []string
	say := func(what string, so bool) {
		if so && !slices.Contains(l, what) {
			l = append(l, what)
		}
	}
	var depths []int64
	for _, i := range prev {
		depths = append(depths, m.known[i].Event.Depth)
	}
	say(byDepth, e.Depth != modelHeight(depths))
	wanted, creates := auth.Wanted(e), e.Type == api.TCreate
	for _, i := range leant {
		on := m.known[i].Event
		say(byDenied, m.denied[i])
		say(byNoState, !on.IsState)
		say(byUnwanted, !slices.Contains(wanted, api.Entry{Type: on.Type, Key: on.Key}))
		creates = creates || on.Type == api.TCreate
	}
	for _, i := range leant {
		for _, j := range leant {
			on, other := m.known[i].Event, m.known[j].Event
			say(byTwice, i != j && on.Type == other.Type && on.Key == other.Key)
		}
	}
	say(byNoCreate, !creates)
	say(byNoPrev, e.Type != api.TCreate && len(prev) == 0)
	say(byLeant, auth.Judge(e, m.knowns(leant)) != api.OK)
	var now []api.Known
	for _, one := range s {
		now = append(now, m.known[one.At])
	}
	say(byAhead, auth.Judge(e, now) != api.OK)
	return l
}

func (m *model) add(k api.Known) (bool, api.Errno) {
	if event.Shape(k.Event) == api.ErrShape || k.Event.Room != m.id || !ident.Event(k.Name) {
		return false, api.ErrShape
	}
	if m.place(k.Name) >= 0 {
		return false, api.ErrHave
	}
	prev, all := m.row(k.Event.Prev)
	leant, both := m.row(k.Event.Auth)
	if !all || !both {
		return false, api.ErrMissing
	}
	s := m.come(prev)
	why := m.reasons(k.Event, prev, leant, s)
	at, denied := len(m.known), len(why) > 0
	behind := slices.Clone(s)
	if e := k.Event; !denied && e.IsState {
		behind = slices.DeleteFunc(behind, func(one api.Spot) bool { return one.Type == e.Type && one.Key == e.Key })
		behind = ordered(append(behind, api.Spot{Type: e.Type, Key: e.Key, At: at}))
	}
	m.known, m.denied, m.why = append(m.known, k), append(m.denied, denied), append(m.why, why)
	m.ahead, m.behind = append(m.ahead, s), append(m.behind, behind)
	return denied, api.OK
}

func (m *model) heads() []int {
	var l []int
	for i, k := range m.known {
		followed := false
		for j, other := range m.known {
			followed = followed || !m.denied[j] && slices.Contains(other.Event.Prev, k.Name)
		}
		if !m.denied[i] && !followed {
			l = append(l, i)
		}
	}
	return l
}

func (m *model) residents() []string {
	var l []string
	for _, one := range m.come(m.heads()) {
		if one.Type == api.TMember && goText(m.known[one.At].Event.Content, "membership") == "join" {
			l = append(l, ident.Home(one.Key))
		}
	}
	slices.Sort(l)
	return slices.Compact(l)
}

// goText tells the text under a key of a content.
func goText(content api.Json, key string) string {
	for i, k := range content.Keys {
		if k == key && content.List[i].Kind == api.JText {
			return content.List[i].Text
		}
	}
	return ""
}

// modelOf puts all events of a room into a model, one by one.
func modelOf(t *testing.T, r *Room) *model {
	t.Helper()
	m := &model{id: r.Id()}
	for i := range r.Len() {
		if _, err := m.add(r.Known(i)); err != api.OK {
			t.Fatalf("place %d: error %d", i, err)
		}
	}
	return m
}

// held holds all that a room tells to its model.
func held(t *testing.T, r *Room, m *model) {
	t.Helper()
	if r.Id() != m.id || r.Len() != len(m.known) {
		t.Fatalf("%s of %d events, not %s of %d", r.Id(), r.Len(), m.id, len(m.known))
	}
	for i, k := range m.known {
		what := fmt.Sprint("place ", i)
		if fmt.Sprintf("%+v", r.Known(i)) != fmt.Sprintf("%+v", k) {
			t.Errorf("%s: %+v, not %+v", what, r.Known(i), k)
		}
		if r.Denied(i) != m.denied[i] {
			t.Errorf("%s: denied %t: %v", what, r.Denied(i), m.why[i])
		}
		if at, ok := r.Place(k.Name); at != i || !ok {
			t.Errorf("%s: %d, %t", what, at, ok)
		}
		equal(t, what+": ahead", r.Ahead(i), m.ahead[i])
		equal(t, what+": behind", r.Behind(i), m.behind[i])
	}
	heads := m.heads()
	equal(t, "heads", r.Heads(), heads)
	s := m.come(heads)
	equal(t, "state", r.State(), s)
	for _, one := range s {
		if k, ok := r.Event(one.Type, one.Key); !ok || fmt.Sprintf("%+v", k) != fmt.Sprintf("%+v", m.known[one.At]) {
			t.Errorf("%s, %q: %t, %+v", one.Type, one.Key, ok, k)
		}
	}
	equal(t, "residents", r.Residents(), m.residents())
	if got, want := fmt.Sprintf("%+v", r.Past()), fmt.Sprintf("%+v", m.past()); got != want {
		t.Errorf("past: %s, not %s", got, want)
	}
	if t.Failed() {
		t.FailNow()
	}
}

// chanceEvent tells an event such as rooms have, most of the time.
func chanceEvent(r *rand.Rand) api.Event {
	sender, other := pick(r, ann, ann, ann, bob, bob, cat, dan), pick(r, users()...)
	switch r.Intn(14) {
	case 0, 1:
		return gives(sender, pick(r, 0, 50, 50, 100), pick(r, 0, 20, 50))
	case 2:
		return rule(sender, pick(r, "public", "public", "invite"))
	case 3, 4:
		return joined(pick(r, bob, cat, cat, dan, dan))
	case 5:
		return member(sender, sender, "leave")
	case 6, 7, 8:
		return member(sender, other, pick(r, "leave", "ban", "invite", "invite"))
	case 9, 10:
		// Levels that are of no state, too, on which nobody may lean.
		return pick(r, message(sender), plain(api.TPower, ann, `{}`))
	case 11:
		return pick(r, create(pick(r, ann, dan)), of(api.TPower, "", sender, `{"ban":"x"}`), plain(api.TPower, sender, `{}`),
			of(api.TPower, "k", sender, `{}`), of("x", "k", sender, `{}`), of(api.TName, other, sender, `{}`), plain(api.TMember, sender, `{}`))
	}
	return title(sender, "x")
}

// chancePrev tells what an event follows: some of the heads, most of the time; at times other places.
func chancePrev(r *rand.Rand, h *house) []int {
	var l []int
	from := h.Heads()
	if len(from) == 0 || r.Intn(2) == 0 {
		for i := range h.Len() {
			from = append(from, i)
		}
	}
	for range pick(r, 1, 1, 1, 1, 2, 2, 3) {
		l = append(l, from[len(from)-1-min(r.Intn(len(from)), r.Intn(6))])
	}
	slices.Sort(l)
	return slices.Compact(l)
}

// other tells a name of the room that is none of a row.
func other(r *rand.Rand, h *house, l []string) string {
	for {
		if n := h.Known(r.Intn(h.Len())).Name; !slices.Contains(l, n) {
			return n
		}
	}
}

// alike tells a name of the room whose event is of the type and key of that of another name, if there is one.
func alike(r *rand.Rand, h *house, named string) string {
	at, _ := h.Place(named)
	one := h.Known(at).Event
	for _, i := range r.Perm(h.Len()) {
		if e := h.Known(i).Event; i != at && e.Type == one.Type && e.Key == one.Key {
			return h.Known(i).Name
		}
	}
	return named
}

// spoilt tells an event with one thing that is wrong with it, most of the time.
func spoilt(r *rand.Rand, h *house, e api.Event) api.Event {
	switch r.Intn(8) {
	case 0:
		e.Depth = max(0, e.Depth+pick[int64](r, -1, 1, 2))
	case 1, 2:
		if n := len(e.Auth); n > 0 {
			at := r.Intn(n)
			e.Auth = slices.Delete(e.Auth, at, at+1)
		}
		if r.Intn(2) == 0 {
			e.Auth = append(e.Auth, other(r, h, e.Auth))
		}
	case 3:
		e.Auth = append(e.Auth, other(r, h, e.Auth))
	case 4:
		// What was right at another place.
		e.Auth = h.draft(with(e, func(e *api.Event) { e.Prev, e.Auth = nil, nil }), r.Intn(h.Len())).Auth
	case 5:
		e.Prev, e.Depth = pick(r, nil, e.Prev[:1]), pick(r, 0, e.Depth)
	case 6, 7:
		for at, named := range e.Auth {
			if n := alike(r, h, named); n != named && r.Intn(2) == 0 {
				if e.Auth[at] = n; r.Intn(3) == 0 {
					e.Auth = append(e.Auth, named)
				}
				return e
			}
		}
	}
	return e
}

// chance tells a room of the usual beginning and n events more, made in branches, and its model; names are by chance.
func chance(t *testing.T, r *rand.Rand, n int) (*house, *model) {
	t.Helper()
	h := begun(t)
	m := modelOf(t, h.Room)
	named := r.Perm(n)
	for i := range n {
		e := h.draft(chanceEvent(r), chancePrev(r, h)...)
		if e.Type == api.TCreate {
			e.Prev, e.Depth = pick(r, nil, nil, e.Prev), 0
		}
		if len(e.Prev) > 0 && r.Intn(3) == 0 {
			e = spoilt(r, h, e)
		}
		e.Ts = int64(r.Intn(8))
		if r.Intn(2) == 0 {
			e.Sigs = []api.Sig{{Server: "s1", Token: "AAAAAAAAAAE"}, {Server: "s2", Token: "AAAAAAAAAAI"}}
		}
		k := api.Known{Name: name(5000 + named[i]), Event: e}
		want, err := m.add(k)
		got, error := h.Add(k)
		if got != want || error != err || err != api.OK {
			t.Fatalf("%+v: denied %t, not %t, error %d, %d: %v", k, got, want, error, err, m.why[len(m.why)-1])
		}
	}
	return h, m
}
