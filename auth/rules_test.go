package auth

import (
	"math/rand"
	"reflect"
	"slices"
	"strconv"
	"strings"
	"sync"
	"testing"

	"agora/api"
)

// ring tells a map that holds itself.
func ring(keys ...string) api.Json {
	l := make([]api.Json, 2)
	l[0], l[1] = list(), table(keys)
	l[0].List, l[1].List = l, l
	return l[1]
}

// deep tells a map in which lists stand so deep within one another.
func deep(key string, n int) api.Json {
	j := list()
	for range n {
		j = list(j)
	}
	return table([]string{key}, j)
}

// TestCallsEnd (R1): on contents that hold themselves, or are deep, in the event and in the state.
func TestCallsEnd(t *testing.T) {
	put := func(e api.Event, c api.Json) api.Event {
		e.Content = c
		return e
	}
	in := is(ann, "join")
	for _, c := range []api.Json{ring("membership", "creator"), ring("users", "join_rule"), deep("membership", 10000), deep("users", 10000), deep("x", 10000)} {
		for _, e := range []api.Event{message(ann), is(bob, "join"), create(), levels(`{}`)} {
			judged(t, "the event", put(e, c), opened(in), api.ErrShape)
			Wanted(put(e, c))
		}
		allowed(t, "the create event's", message(ann), stateOf(put(create(), c), in))
		denied(t, "the sender's membership", message(ann), opened(put(in, c)))
		denied(t, "the rule", is(bob, "join"), opened(put(rule("public"), c)))
		denied(t, "the levels", message(ann), opened(in, put(levels(`{}`), c)))
	}
	long := strings.Repeat("@a:s", 1<<20)
	judged(t, "long names", api.Event{Room: long, Type: long, Sender: long, Key: long, IsState: true}, opened(in), api.ErrShape)
	denied(t, "a long sender", message(ann), stateOf(with(create(), func(e *api.Event) { e.Sender = long })))
	if l := Wanted(api.Event{Type: api.TMember, IsState: true, Sender: long, Key: long}); len(l) != 3 || l[2].Key != long {
		t.Error("a long name:", len(l))
	}
}

// TestLongStates (R1): so many events, the ones that count at the end, or the first of many.
func TestLongStates(t *testing.T) {
	var l []api.Event
	for i := range 50000 {
		l = append(l, is("@"+strconv.Itoa(i)+":s", "join"))
	}
	l = append(l, create(), is(ann, "join"))
	state := stateOf(l...)
	allowed(t, "the last one", message(ann), state)
	allowed(t, "one in the midst", message("@25000:s"), state)
	denied(t, "none of them", message(bob), state)
	allowed(t, "a ban", member(ann, "@49999:s", "ban"), state)
	again := opened(slices.Repeat([]api.Event{is(ann, "join"), is(ann, "ban")}, 25000)...)
	allowed(t, "the first of many", message(ann), again)
}

// TestAnyParts (R1, R2): events and states made of any parts have one of three answers, and no call panics.
func TestAnyParts(t *testing.T) {
	r := rand.New(rand.NewSource(1))
	words := []string{"", "x", "@", ann, bob, here, "join", "invite", "leave", "ban", "public", "\xff", name(1), "membership", "join_rule", "creator", "users", "ban"}
	kinds := []string{api.TCreate, api.TMember, api.TPower, api.TRules, api.TMessage, "", "A"}
	var part func(deep int) api.Json
	part = func(deep int) api.Json {
		j := api.Json{Kind: r.Intn(8) - 1, Int: r.Int63n(3) - 1, Text: pick(r, words...)}
		for n := r.Intn(3); n > 0 && deep > 0; n-- {
			j.List = append(j.List, part(deep-1))
		}
		for range r.Intn(3) {
			j.Keys = append(j.Keys, pick(r, words...))
		}
		return j
	}
	odd := func() api.Event {
		return api.Event{
			Room: pick(r, here, here, here, ""), Type: pick(r, kinds...), Sender: pick(r, ann, bob, pick(r, words...)),
			IsState: r.Intn(2) == 0, Key: pick(r, "", "", pick(r, words...)), Content: part(2),
		}
	}
	counts := map[api.Errno]int{}
	for range 20000 {
		var state []api.Known
		for range r.Intn(8) {
			state = append(state, api.Known{Name: pick(r, words...), Event: odd()})
		}
		e, usual := odd(), chanceEvent(r, name(1))
		Wanted(e)
		if r.Intn(2) == 0 {
			e = usual
		}
		counts[Judge(e, state)]++
		counts[Judge(usual, slices.Concat(state, opened(is(ann, "join"))))]++
	}
	if len(counts) != 3 || counts[api.OK] < 1000 || counts[api.ErrDenied] < 1000 || counts[api.ErrShape] < 1000 {
		t.Error(counts)
	}
}

// TestEmptyListsAreTheSame (R3).
func TestEmptyListsAreTheSame(t *testing.T) {
	empty := func(e *api.Event) {
		e.Prev, e.Auth, e.Sigs = []string{}, []string{}, []api.Sig{}
		e.Content.Keys, e.Content.List = append([]string{}, e.Content.Keys...), append([]api.Json{}, e.Content.List...)
	}
	allowed(t, "a creation", with(create(), empty), []api.Known{})
	allowed(t, "a creation", with(create(), empty), nil)
	denied(t, "a message", with(message(ann), empty), []api.Known{})
	state := stateOf(with(create(), empty), with(is(ann, "join"), empty))
	allowed(t, "a message", with(message(ann), empty), state)
	allowed(t, "first levels", with(levels(`{}`), empty), state)
	denied(t, "a join", with(is(ann, "join"), empty), stateOf(with(create(), empty)))
}

// roomy tells the same value in lists that have something behind their ends.
func roomy(j api.Json) api.Json {
	l := make([]api.Json, 0, len(j.List)+2)
	for _, v := range j.List {
		l = append(l, roomy(v))
	}
	n, m := len(l), len(j.Keys)
	j.Keys = append(append(make([]string, 0, m+2), j.Keys...), "membership", "ban")[:m]
	j.List = append(l, word("join"), word("behind"))[:n]
	return j
}

// roomyEvent tells an event whose rows have something behind their ends.
func roomyEvent(e api.Event) api.Event {
	n, m := len(e.Prev), len(e.Auth)
	e.Prev = append(append(make([]string, 0, n+2), e.Prev...), name(1), "y")[:n]
	e.Auth = append(append(make([]string, 0, m+2), e.Auth...), name(1), "y")[:m]
	e.Sigs = []api.Sig{{Server: "s1", Token: name(3)[1:]}, {Server: "x"}}[:1]
	e.Content = roomy(e.Content)
	return e
}

// roomyState tells a state, behind whose end stands what would be allowed much.
func roomyState(state []api.Known) []api.Known {
	var l []api.Known
	for _, k := range state {
		l = append(l, api.Known{Name: k.Name, Event: roomyEvent(k.Event)})
	}
	for _, user := range users() {
		l = append(l, api.Known{Event: is(user, "join")})
	}
	return append(l, opened(rule("public"), levels(`{"users_default":100}`))...)[:len(state)]
}

// whole tells a value with all that lies behind the ends of its lists.
func whole(j api.Json) api.Json {
	l := append([]api.Json{}, j.List[:cap(j.List)]...)
	for i := range l {
		l[i] = whole(l[i])
	}
	j.List, j.Keys = l, append([]string{}, j.Keys[:cap(j.Keys)]...)
	return j
}

// wholeEvent tells an event with all that lies behind the ends of its rows.
func wholeEvent(e api.Event) api.Event {
	e.Prev = append([]string{}, e.Prev[:cap(e.Prev)]...)
	e.Auth = append([]string{}, e.Auth[:cap(e.Auth)]...)
	e.Sigs = append([]api.Sig{}, e.Sigs[:cap(e.Sigs)]...)
	e.Content = whole(e.Content)
	return e
}

// wholeState tells a state with all that lies behind its end.
func wholeState(state []api.Known) []api.Known {
	l := append([]api.Known{}, state[:cap(state)]...)
	for i := range l {
		l[i].Event = wholeEvent(l[i].Event)
	}
	return l
}

// spoil writes over all memory of an event, and behind the ends of its rows.
func spoil(e api.Event) {
	for _, row := range [][]string{e.Prev[:cap(e.Prev)], e.Auth[:cap(e.Auth)], e.Content.Keys[:cap(e.Content.Keys)]} {
		for i := range row {
			row[i] = "spoilt"
		}
	}
	l := e.Content.List[:cap(e.Content.List)]
	for i := range l {
		l[i] = word("spoilt")
	}
}

// spoilEntries writes over all memory of entries, and behind their end.
func spoilEntries(l []api.Entry) {
	for i := range l[:cap(l)] {
		l[:cap(l)][i] = api.Entry{Type: "spoilt", Key: "spoilt", Id: "spoilt"}
	}
}

// TestMemory (R4): what is handed in is not changed, what lies behind an end neither, nor does it count; nothing is kept.
func TestMemory(t *testing.T) {
	r := rand.New(rand.NewSource(4))
	for range 3000 {
		e, state := chance(t, r)
		want, entries := Judge(e, state), slices.Clone(Wanted(e))
		big, wide := roomyEvent(e), roomyState(state)
		was, all := wholeEvent(big), wholeState(wide)
		for range 2 {
			judged(t, "roomy", big, wide, want)
			got := Wanted(big)
			if !slices.Equal(got, entries) {
				t.Errorf("%+v, not %+v", got, entries)
			}
			// Who writes over what was told changes nothing.
			spoilEntries(got)
		}
		if !reflect.DeepEqual(wholeEvent(big), was) || !reflect.DeepEqual(wholeState(wide), all) {
			t.Fatalf("changed: %+v, %+v", big, wide)
		}
		got := Wanted(big)
		spoil(big)
		for i := range wide {
			spoil(wide[i].Event)
			wide[i] = api.Known{}
		}
		if !slices.Equal(got, entries) {
			t.Errorf("who writes over an event writes over what was told: %+v, not %+v", got, entries)
		}
		judged(t, "afterwards", e, state, want)
		if t.Failed() {
			return
		}
	}
}

// TestWantedShareNothing (R4): two answers, and what is put behind one, are each for itself.
func TestWantedShareNothing(t *testing.T) {
	for _, e := range []api.Event{create(), message(ann), member(ann, bob, "invite"), is(bob, "join"), is(bob, "leave")} {
		one, two := Wanted(e), Wanted(e)
		want := slices.Clone(two)
		_ = append(one, api.Entry{Type: "behind"})
		spoilEntries(one)
		if !slices.Equal(two, want) || !slices.Equal(Wanted(e), want) {
			t.Errorf("%+v, %+v, not %+v", two, Wanted(e), want)
		}
	}
}

// TestNothingIsKept (R4, R5): a state that is changed changes the next answer, and no other thing does.
func TestNothingIsKept(t *testing.T) {
	state, e := opened(is(ann, "join"), is(bob, "join")), message(bob)
	allowed(t, "first", e, state)
	state[2].Event.Content.List[0].Text = "ban"
	denied(t, "then", e, state)
	denied(t, "a join", is(bob, "join"), state)
	state[2].Event.Content.List[0].Text = "invite"
	allowed(t, "a join", is(bob, "join"), state)
	state[2].Event.Content.List[0].Text = "join"
	allowed(t, "at last", e, state)
	e.Sender = cat
	denied(t, "another sender", e, state)
	// An answer that is an error leaves nothing behind, nor one that was thrown from far within.
	judged(t, "no event", api.Event{}, state, api.ErrShape)
	allowed(t, "behind an error", message(ann), state)
}

// TestTheSameEachTime (R5): again, and from several goroutines at once.
func TestTheSameEachTime(t *testing.T) {
	r := rand.New(rand.NewSource(5))
	type asked struct {
		e     api.Event
		state []api.Known
		want  api.Errno
		l     []api.Entry
	}
	var l []asked
	for range 100 {
		e, state := chance(t, r)
		l = append(l, asked{e, state, Judge(e, state), Wanted(e)})
	}
	var all sync.WaitGroup
	for range 8 {
		all.Go(func() {
			for range 20 {
				for _, a := range l {
					if Judge(a.e, a.state) != a.want || !slices.Equal(Wanted(a.e), a.l) {
						t.Errorf("%s: not %d, %+v", short(a.e), a.want, a.l)
						return
					}
				}
			}
		})
	}
	all.Wait()
}

// TestGreatLevels (R6): at the greatest and the least level that there are.
func TestGreatLevels(t *testing.T) {
	const most, least = "1073741824", "-1073741824"
	state := func(ban, s, other string) []api.Known {
		return opened(is(bob, "join"), is(cat, "join"), levels(`{"ban":`+ban+`,"kick":`+ban+`,"users":{"`+bob+`":`+s+`,"`+cat+`":`+other+`}}`))
	}
	for _, m := range []string{"ban", "leave"} {
		allowed(t, "most against least", member(bob, cat, m), state(most, most, least))
		denied(t, "most against most", member(bob, cat, m), state(most, most, most))
		denied(t, "least against least", member(bob, cat, m), state(least, least, least))
		denied(t, "least against most", member(bob, cat, m), state(least, least, most))
		denied(t, "below the most", member(bob, cat, m), state(most, "1073741823", least))
	}
}
