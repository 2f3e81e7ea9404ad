package resolve

import (
	"encoding/base64"
	"encoding/binary"
	"fmt"
	"math/rand"
	"slices"
	"strconv"
	"strings"
	"testing"

	"agora/api"
	"agora/auth"
	"agora/canon"
	"agora/ranks"
)

// The room of these tests, and its users. Ann made it.
const (
	here = "!r:s1"
	ann  = "@ann:s1"
	bob  = "@bob:s2"
	cat  = "@cat:s3"
)

func users() []string { return []string{ann, bob, cat} }

// value tells what a text of JSON says.
func value(s string) api.Json {
	j, err, at := canon.Decode([]byte(s))
	if err != api.OK {
		panic(fmt.Sprintf("%s: error %d at %d", s, err, at))
	}
	return j
}

// name tells an event's name by a number.
func name(n int) string {
	return "$" + base64.RawStdEncoding.EncodeToString(binary.BigEndian.AppendUint64(nil, uint64(n)))
}

// plain tells an event that is not of a state.
func plain(kind, sender, content string) api.Event {
	return api.Event{Room: here, Type: kind, Sender: sender, Content: value(content)}
}

// of tells an event of a state.
func of(kind, key, sender, content string) api.Event {
	e := plain(kind, sender, content)
	e.IsState, e.Key = true, key
	return e
}

func create(sender string) api.Event { return of(api.TCreate, "", sender, `{"creator":"`+sender+`"}`) }

// member tells what a sender makes of a user's membership.
func member(sender, user, membership string) api.Event {
	return of(api.TMember, user, sender, `{"membership":"`+membership+`"}`)
}

func join(user string) api.Event { return member(user, user, "join") }

func rule(sender, r string) api.Event { return of(api.TRules, "", sender, `{"join_rule":"`+r+`"}`) }

func title(sender, s string) api.Event { return of(api.TName, "", sender, `{"name":"`+s+`"}`) }

func message(sender string) api.Event { return plain(api.TMessage, sender, `{"body":"x"}`) }

// gives tells levels by which ann has 100, bob and cat have these, names may be set by all, and other things as usual.
func gives(sender string, bobs, cats int) api.Event {
	return of(api.TPower, "", sender, fmt.Sprintf(`{"events":{"m.room.name":0},"users":{"@ann:s1":100,"@bob:s2":%d,"@cat:s3":%d}}`, bobs, cats))
}

// builder makes a past, one event behind the other.
type builder struct{ past api.Past }

// add puts an event behind the others, that leans on these places; it is told when it was made, and its name. It answers its place.
func (b *builder) add(e api.Event, ts int64, named string, auth ...int) int {
	p := &b.past
	at := len(p.Events)
	e.Ts = ts
	var prev []int
	if at > 0 && e.Type != api.TCreate {
		prev, e.Prev = []int{at - 1}, []string{p.Names[at-1]}
	}
	p.Names, p.Events, p.Denied = append(p.Names, named), append(p.Events, e), append(p.Denied, false)
	p.Prev, p.Auth = append(p.Prev, prev), append(p.Auth, auth)
	return at
}

// put does the same, with a time and a name of its place.
func (b *builder) put(e api.Event, auth ...int) int {
	at := len(b.past.Events)
	return b.add(e, int64(at), name(1000+at), auth...)
}

// begun is a room as it usually begins: everybody may join, and bob has 50.
//
//	0 created by ann, 1 ann joins, 2 levels by ann, 3 the rule by ann, 4 bob joins, 5 cat joins
func begun() *builder {
	b := &builder{}
	b.put(create(ann))
	b.put(join(ann), 0)
	b.put(gives(ann, 50, 0), 0, 1)
	b.put(rule(ann, "public"), 0, 2, 1)
	b.put(join(bob), 0, 2, 3)
	b.put(join(cat), 0, 2, 3)
	return b
}

// roomOf is how that room goes on, in branches that do not know of each other.
//
//	6 cat is banned by ann, 7 cat sets a name, 8 bob sets a name, 9 levels by ann (cat has 20), 10 a message by bob, 11 the rule by bob
func roomOf() api.Past {
	b := begun()
	b.put(member(ann, cat, "ban"), 0, 2, 1, 5)
	b.put(title(cat, "cat's"), 0, 2, 5)
	b.put(title(bob, "bob's"), 0, 2, 4)
	b.put(gives(ann, 50, 20), 0, 2, 1)
	b.put(message(bob), 0, 2, 4)
	b.put(rule(bob, "invite"), 0, 2, 4)
	return b.past
}

// row reads numbers with blanks between.
func row(t *testing.T, text string) []int {
	t.Helper()
	var l []int
	for _, s := range strings.Fields(text) {
		n, err := strconv.Atoi(s)
		if err != nil {
			t.Fatal(err)
		}
		l = append(l, n)
	}
	return l
}

// ahead tells by types, then by keys, whether a spot stands ahead of another one.
func ahead(a, b api.Spot) bool { return a.Type < b.Type || a.Type == b.Type && a.Key < b.Key }

// ordered tells spots in order, each put where it belongs.
func ordered(l []api.Spot) []api.Spot {
	var out []api.Spot
	for _, one := range l {
		at := 0
		for at < len(out) && ahead(out[at], one) {
			at++
		}
		out = slices.Insert(out, at, one)
	}
	return out
}

// stateOf tells the state of a past that these places make, in order.
func stateOf(p api.Past, places ...int) []api.Spot {
	var l []api.Spot
	for _, i := range places {
		l = append(l, api.Spot{Type: p.Events[i].Type, Key: p.Events[i].Key, At: i})
	}
	return ordered(l)
}

// state does the same with places that are written as a text; states with | between several of them.
func state(t *testing.T, p api.Past, text string) []api.Spot {
	t.Helper()
	return stateOf(p, row(t, text)...)
}

func states(t *testing.T, p api.Past, text string) [][]api.Spot {
	t.Helper()
	var l [][]api.Spot
	for _, s := range strings.Split(text, "|") {
		l = append(l, state(t, p, s))
	}
	return l
}

// short tells a row in not too many letters.
func short[T any](l []T) string {
	if len(l) > 30 {
		return fmt.Sprintf("%+v .. of %d", l[:30], len(l))
	}
	return fmt.Sprintf("%+v", l)
}

// equal tells whether two rows are the same, where none and an empty one are.
func equal[T comparable](t *testing.T, what string, got, want []T) {
	t.Helper()
	if !slices.Equal(got, want) {
		t.Errorf("%s: %s, not %s", what, short(got), short(want))
	}
}

// is does the same with a row that is written as a text.
func is(t *testing.T, what string, got []int, want string) {
	t.Helper()
	equal(t, what, got, row(t, want))
}

// resolved holds Resolve to a state, without an error.
func resolved(t *testing.T, what string, p api.Past, states [][]api.Spot, want []api.Spot) {
	t.Helper()
	got, err := Resolve(p, states)
	if err != api.OK {
		t.Errorf("%s: error %d", what, err)
	}
	equal(t, what, got, want)
}

// refused holds Resolve to ErrArg, beside which there is nothing.
func refused(t *testing.T, what string, p api.Past, states [][]api.Spot) {
	t.Helper()
	if got, err := Resolve(p, states); err != api.ErrArg || len(got) > 0 {
		t.Errorf("%s: error %d, %s", what, err, short(got))
	}
}

// modelSlot tells where in a state the type and key stand; -1, if they do not.
func modelSlot(s []api.Spot, kind, key string) int {
	return slices.IndexFunc(s, func(one api.Spot) bool { return one.Type == kind && one.Key == key })
}

// modelSettled is 13.1's words.
func modelSettled(states [][]api.Spot) []api.Spot {
	var l []api.Spot
	for _, s := range states {
		for _, one := range s {
			lacks := slices.ContainsFunc(states, func(s []api.Spot) bool { return !slices.Contains(s, one) })
			if !lacks && !slices.Contains(l, one) {
				l = append(l, one)
			}
		}
	}
	return ordered(l)
}

// rising tells places in order, each once.
func rising(l []int) []int { return slices.Compact(slices.Sorted(slices.Values(l))) }

func modelContested(states [][]api.Spot) []int {
	firm := modelSettled(states)
	var l []int
	for _, s := range states {
		for _, one := range s {
			if modelSlot(firm, one.Type, one.Key) < 0 {
				l = append(l, one.At)
			}
		}
	}
	return rising(l)
}

// modelChain goes all ways from the places of a state one by one.
func modelChain(p api.Past, s []api.Spot) []int {
	var out []int
	var lean func(i int)
	lean = func(i int) {
		for _, j := range p.Auth[i] {
			if !slices.Contains(out, j) {
				out = append(out, j)
				lean(j)
			}
		}
	}
	for _, one := range s {
		lean(one.At)
	}
	return out
}

// modelFull is 13.2's words.
func modelFull(p api.Past, states [][]api.Spot) []int {
	l := modelContested(states)
	for i := range p.Events {
		n := 0
		for _, s := range states {
			if slices.Contains(modelChain(p, s), i) {
				n++
			}
		}
		if n > 0 && n < len(states) {
			l = append(l, i)
		}
	}
	return rising(l)
}

// modelHangs tells the place that counts for a type and a key, as 13.3 says; -1, if there is none.
func modelHangs(p api.Past, i int, s []api.Spot, kind, key string) int {
	if k := modelSlot(s, kind, key); k >= 0 {
		return s[k].At
	}
	for _, j := range p.Auth[i] {
		if e := p.Events[j]; e.IsState && e.Type == kind && e.Key == key && !p.Denied[j] {
			return j
		}
	}
	return -1
}

// modelWalk is 13.3's words.
func modelWalk(p api.Past, l []int, s []api.Spot) []api.Spot {
	now := slices.Clone(s)
	for _, i := range l {
		if i < 0 || i > len(p.Events)-1 || p.Denied[i] || !p.Events[i].IsState {
			continue
		}
		e := p.Events[i]
		var by []api.Known
		for _, w := range auth.Wanted(e) {
			if j := modelHangs(p, i, now, w.Type, w.Key); j >= 0 {
				by = append(by, api.Known{Name: p.Names[j], Event: p.Events[j]})
			}
		}
		if auth.Judge(e, by) != api.OK {
			continue
		}
		now = slices.DeleteFunc(now, func(one api.Spot) bool { return one.Type == e.Type && one.Key == e.Key })
		now = append(now, api.Spot{Type: e.Type, Key: e.Key, At: i})
	}
	return ordered(now)
}

// modelResolve is 13.4's words.
func modelResolve(p api.Past, states [][]api.Spot) []api.Spot {
	if len(states) == 0 {
		return nil
	}
	full := modelFull(p, states)
	var powers, first, rest []int
	for _, i := range full {
		if ranks.Powers(p.Events[i]) {
			powers = append(powers, i)
		}
	}
	for _, i := range full {
		if slices.Contains(powers, i) || slices.Contains(modelChain(p, stateOf(p, powers...)), i) {
			first = append(first, i)
		} else {
			rest = append(rest, i)
		}
	}
	firm := modelSettled(states)
	a := modelWalk(p, ranks.ByPower(p, first), firm)
	by := -1
	if k := modelSlot(a, api.TPower, ""); k >= 0 {
		by = a[k].At
	}
	l := modelWalk(p, ranks.ByLine(p, rest, by), a)
	for _, one := range firm {
		l = slices.DeleteFunc(l, func(other api.Spot) bool { return one.Type == other.Type && one.Key == other.Key })
		l = append(l, one)
	}
	return ordered(l)
}

// pick tells one of a row by chance.
func pick[T any](r *rand.Rand, row ...T) T { return row[r.Intn(len(row))] }

// chanceEvent tells an event such as rooms have, most of the time.
func chanceEvent(r *rand.Rand) api.Event {
	sender, other := pick(r, users()...), pick(r, users()...)
	switch r.Intn(12) {
	case 0, 1:
		return gives(sender, pick(r, 0, 50, 50, 100), pick(r, 0, 20, 50))
	case 2:
		return rule(sender, pick(r, "public", "public", "invite"))
	case 3, 4:
		return join(sender)
	case 5:
		return member(sender, sender, "leave")
	case 6, 7:
		return member(sender, other, pick(r, "leave", "ban", "ban", "invite"))
	case 8:
		return message(sender)
	case 9:
		return pick(r, create(sender), of(api.TPower, "", sender, `{"ban":"x"}`), of(api.TMember, other, sender, `{}`), of("x", "k", sender, `{}`), of(api.TName, other, sender, `{}`))
	}
	return title(sender, "x")
}

// chanceAuth tells what an event leans on by a state, most of the time: at times something is missing, too much, there twice, or in another order.
func chanceAuth(r *rand.Rand, n int, e api.Event, s []api.Spot) []int {
	var l []int
	for _, w := range auth.Wanted(e) {
		if k := modelSlot(s, w.Type, w.Key); k >= 0 && r.Intn(20) > 0 {
			l = append(l, s[k].At)
		}
	}
	for range pick(r, 0, 0, 0, 1, 2) {
		l = append(l, r.Intn(n))
	}
	if r.Intn(4) == 0 {
		r.Shuffle(len(l), func(i, j int) { l[i], l[j] = l[j], l[i] })
	}
	return l
}

// chanceRoom tells a past of so many events behind the usual beginning, made in branches, and the states of these.
func chanceRoom(r *rand.Rand, n int) (api.Past, [][]api.Spot) {
	b := begun()
	names := r.Perm(n)
	branches := make([][]api.Spot, 1+r.Intn(4))
	for k := range branches {
		branches[k] = stateOf(b.past, 0, 1, 2, 3, 4, 5)
	}
	for i := range n {
		k := r.Intn(len(branches))
		s, e, at := branches[k], chanceEvent(r), len(b.past.Events)
		l := chanceAuth(r, at, e, s)
		e.IsState = e.IsState && r.Intn(40) > 0
		b.add(e, int64(r.Intn(8)), name(names[i]), l...)
		next := modelWalk(b.past, []int{at}, s)
		// An event that its own branch refuses was denied, most of the time.
		b.past.Denied[at] = (e.IsState && slices.Equal(next, s)) != (r.Intn(20) == 0)
		if !b.past.Denied[at] {
			branches[k] = next
		}
		if r.Intn(12) == 0 {
			branches[k] = branches[r.Intn(len(branches))]
		}
	}
	return b.past, branches
}

// chanceState tells a state of any events of a past.
func chanceState(r *rand.Rand, p api.Past) []api.Spot {
	var s []api.Spot
	for _, i := range r.Perm(len(p.Events))[:r.Intn(len(p.Events)+1)] {
		if e := p.Events[i]; e.IsState && modelSlot(s, e.Type, e.Key) < 0 {
			s = append(s, api.Spot{Type: e.Type, Key: e.Key, At: i})
		}
	}
	return ordered(s)
}

// chanceStates tells states of a past: those of branches, of any events, empty ones, some twice.
func chanceStates(r *rand.Rand, p api.Past, branches [][]api.Spot) [][]api.Spot {
	l := slices.Clone(branches)
	if r.Intn(3) == 0 {
		l = append(l, chanceState(r, p))
	}
	if r.Intn(12) == 0 {
		l = append(l, nil)
	}
	if r.Intn(8) == 0 {
		l = append(l, pick(r, l...))
	}
	if r.Intn(12) == 0 {
		l = [][]api.Spot{chanceState(r, p), chanceState(r, p)}
	}
	return l
}

// chanceRow tells places of a past, some twice, and some that are none.
func chanceRow(r *rand.Rand, n int) []int {
	var l []int
	for range r.Intn(2*n + 2) {
		l = append(l, r.Intn(n+4)-2)
	}
	return l
}

// copyOf tells the same past in other memory, but for the contents.
func copyOf(p api.Past) api.Past {
	q := api.Past{Names: slices.Clone(p.Names), Events: slices.Clone(p.Events), Denied: slices.Clone(p.Denied)}
	for _, l := range p.Prev {
		q.Prev = append(q.Prev, slices.Clone(l))
	}
	for _, l := range p.Auth {
		q.Auth = append(q.Auth, slices.Clone(l))
	}
	return q
}

// copyStates tells the same states in other memory.
func copyStates(states [][]api.Spot) [][]api.Spot {
	var l [][]api.Spot
	for _, s := range states {
		l = append(l, slices.Clone(s))
	}
	return l
}

// wrongPasts tells pasts that are not right, each by one thing that is wrong with roomOf.
func wrongPasts() map[string]api.Past {
	wrong := map[string]func(p *api.Past){
		"no names":          func(p *api.Past) { p.Names = nil },
		"a name less":       func(p *api.Past) { p.Names = p.Names[:11] },
		"a name more":       func(p *api.Past) { p.Names = append(p.Names, "$x") },
		"an event more":     func(p *api.Past) { p.Events = append(p.Events, message(ann)) },
		"no row of Prev":    func(p *api.Past) { p.Prev = nil },
		"a Prev less":       func(p *api.Past) { p.Prev = p.Prev[:11] },
		"a Prev more":       func(p *api.Past) { p.Prev = append(p.Prev, nil) },
		"no row of Auth":    func(p *api.Past) { p.Auth = nil },
		"an Auth less":      func(p *api.Past) { p.Auth = p.Auth[:11] },
		"an Auth more":      func(p *api.Past) { p.Auth = append(p.Auth, nil) },
		"no verdicts":       func(p *api.Past) { p.Denied = nil },
		"a verdict less":    func(p *api.Past) { p.Denied = p.Denied[:11] },
		"a verdict more":    func(p *api.Past) { p.Denied = append(p.Denied, false) },
		"an event less":     func(p *api.Past) { p.Events = p.Events[:11] },
		"no events":         func(p *api.Past) { p.Events = nil },
		"an edge, no event": func(p *api.Past) { *p = api.Past{Auth: [][]int{nil}} },
	}
	for _, i := range []int{0, 5, 11} {
		for what, j := range map[string]int{"its own place": i, "a later place": i + 1, "a place below 0": -1, "no place": 99} {
			end := fmt.Sprint(" in row ", i, ": ", what)
			wrong["Prev"+end] = func(p *api.Past) { p.Prev[i] = append(p.Prev[i], j) }
			wrong["Auth"+end] = func(p *api.Past) { p.Auth[i] = append(p.Auth[i], j) }
		}
	}
	out := map[string]api.Past{}
	for what, spoil := range wrong {
		p := copyOf(roomOf())
		spoil(&p)
		out[what] = p
	}
	return out
}

// wrongStates tells rows of spots that are no right state of roomOf, each by one thing that is wrong.
func wrongStates() map[string][]api.Spot {
	p := roomOf()
	good := stateOf(p, 0, 1, 2, 3, 4, 7)
	with := func(do func(s []api.Spot) []api.Spot) []api.Spot { return do(slices.Clone(good)) }
	last := len(good) - 1
	return map[string][]api.Spot{
		"a place below 0":           with(func(s []api.Spot) []api.Spot { s[0].At = -1; return s }),
		"a place far below 0":       with(func(s []api.Spot) []api.Spot { s[last].At = -1 << 62; return s }),
		"a place behind the last":   with(func(s []api.Spot) []api.Spot { s[last].At = 12; return s }),
		"a place far behind":        with(func(s []api.Spot) []api.Spot { s[1].At = 1 << 62; return s }),
		"another place":             with(func(s []api.Spot) []api.Spot { s[last].At = 0; return s }),
		"another type":              with(func(s []api.Spot) []api.Spot { s[last].Type = "n"; return s }),
		"another key":               with(func(s []api.Spot) []api.Spot { s[0].Key = "x"; return s }),
		"another user":              with(func(s []api.Spot) []api.Spot { s[3].Key = cat; return s }),
		"a message":                 {{Type: api.TMessage, At: 10}},
		"a message among others":    ordered(append(slices.Clone(good), api.Spot{Type: api.TMessage, At: 10})),
		"two that fall":             with(func(s []api.Spot) []api.Spot { s[0], s[1] = s[1], s[0]; return s }),
		"keys that fall":            {{Type: api.TMember, Key: bob, At: 4}, {Type: api.TMember, Key: ann, At: 1}},
		"the last one in the midst": with(func(s []api.Spot) []api.Spot { return slices.Insert(s[:last:last], 2, s[last]) }),
		"one twice":                 with(func(s []api.Spot) []api.Spot { return append(s, s[last]) }),
		"the first one twice":       with(func(s []api.Spot) []api.Spot { return slices.Insert(s, 0, s[0]) }),
		"two of a type and a key":   {{Type: api.TName, At: 7}, {Type: api.TName, At: 8}},
		"all the other way round":   with(func(s []api.Spot) []api.Spot { slices.Reverse(s); return s }),
	}
}
