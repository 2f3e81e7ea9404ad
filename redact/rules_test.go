package redact

import (
	"bytes"
	"encoding/json"
	"math/rand"
	"reflect"
	"slices"
	"strings"
	"sync"
	"testing"

	"agora/api"
)

// TestCallsEnd (R1): on contents that hold themselves, are deep or wide, on rows of any length, on any parts.
func TestCallsEnd(t *testing.T) {
	ring := make([]api.Json, 2)
	ring[0], ring[1] = list(), table([]string{"ban", "x"})
	ring[0].List, ring[1].List = ring, ring
	gone(t, "a ring", message(api.TPower, ring[1]))
	gone(t, "a deep tree", message(api.TPower, table([]string{"ban"}, nested(10000))))
	e := full(api.TPower, table(nil))
	e.Prev, e.Auth, e.Sigs = names(100000), names(100000), make([]api.Sig, 100000)
	gone(t, "long rows", e)
	wide := table(nil)
	for i := range 20000 {
		wide.Keys, wide.List = append(wide.Keys, letters(uint64(i))), append(wide.List, null())
	}
	wide.Keys[10000] = "membership"
	left(t, "a wide map", full(api.TMember, wide), `{"membership":null}`)
	Keys(strings.Repeat("m.room.create", 1<<20))
}

// TestAnyParts (R1, R2): of events made of any parts nothing is left, or what the chapter says.
func TestAnyParts(t *testing.T) {
	r := rand.New(rand.NewSource(1))
	var part func(deep int) api.Json
	part = func(deep int) api.Json {
		j := api.Json{Kind: r.Intn(8) - 1, Int: r.Int63n(3) - 1, Text: pick(r, []string{"", "a", "\xff"})}
		for n := r.Intn(3); n > 0 && deep > 0; n-- {
			j.List = append(j.List, part(deep-1))
			if r.Intn(6) > 0 {
				j.Keys = append(j.Keys, pick(r, []string{"ban", "users", "x", "", "\xff"}))
			}
		}
		return j
	}
	some, none := 0, 0
	for range 5000 {
		e := full(api.TPower, part(2))
		if r.Intn(2) == 0 {
			e.Content = table([]string{"x", "ban"}, part(1), number(1))
		}
		got := Redact(e)
		switch {
		case same(got, api.Event{}):
			none++
		case sameRest(got, e) && got.Content.Kind == api.JMap && len(got.Content.Keys) <= 2:
			some++
		default:
			t.Fatalf("%+v became %+v", e, got)
		}
	}
	if some < 50 || none < 1000 {
		t.Error("too few:", some, none)
	}
}

// TestEmptyListsAreTheSame (R3).
func TestEmptyListsAreTheSame(t *testing.T) {
	a, b := message(api.TPower, table(nil)), message(api.TPower, table([]string{}, []api.Json{}...))
	b.Content.List = []api.Json{}
	b.Prev, b.Auth, b.Sigs = []string{}, []string{}, []api.Sig{}
	if x, y := Redact(a), Redact(b); !same(x, y) || same(x, api.Event{}) {
		t.Errorf("%+v and %+v", x, y)
	}
}

// roomy tells the same value in lists that have something behind their ends.
func roomy(j api.Json) api.Json {
	l := make([]api.Json, 0, len(j.List)+2)
	for _, v := range j.List {
		l = append(l, roomy(v))
	}
	n, m := len(l), len(j.Keys)
	j.Keys = append(append(make([]string, 0, m+2), j.Keys...), "z", "y")[:m]
	j.List = append(l, number(-5), text("behind"))[:n]
	return j
}

// whole tells a value with all that lies behind the ends of its lists.
func whole(j api.Json) api.Json {
	l := append([]api.Json{}, j.List[:cap(j.List)]...)
	for i := range l {
		l[i] = whole(l[i])
	}
	j.List, j.Keys = l, append([]string{}, j.Keys[:cap(j.Keys)]...)
	return j
}

// roomyEvent tells an event whose rows have something behind their ends.
func roomyEvent(e api.Event) api.Event {
	n, m, k := len(e.Prev), len(e.Auth), len(e.Sigs)
	e.Prev = append(append(make([]string, 0, n+2), e.Prev...), "x", "y")[:n]
	e.Auth = append(append(make([]string, 0, m+2), e.Auth...), "x", "y")[:m]
	e.Sigs = append(append(make([]api.Sig, 0, k+1), e.Sigs...), api.Sig{Server: "x", Token: "y"})[:k]
	e.Content = roomy(e.Content)
	return e
}

// wholeEvent tells an event with all that lies behind the ends of its rows.
func wholeEvent(e api.Event) api.Event {
	e.Prev = append([]string{}, e.Prev[:cap(e.Prev)]...)
	e.Auth = append([]string{}, e.Auth[:cap(e.Auth)]...)
	e.Sigs = append([]api.Sig{}, e.Sigs[:cap(e.Sigs)]...)
	e.Content = whole(e.Content)
	return e
}

// spoil writes over all memory of a value, and behind the ends of its lists.
func spoil(j api.Json) {
	l, keys := j.List[:cap(j.List)], j.Keys[:cap(j.Keys)]
	for i := range l {
		spoil(l[i])
		l[i] = text("spoilt")
	}
	for i := range keys {
		keys[i] = "spoilt"
	}
}

// spoilEvent writes over all memory of an event.
func spoilEvent(e api.Event) {
	for _, row := range [][]string{e.Prev[:cap(e.Prev)], e.Auth[:cap(e.Auth)]} {
		for i := range row {
			row[i] = "spoilt"
		}
	}
	for i := range e.Sigs[:cap(e.Sigs)] {
		e.Sigs[:cap(e.Sigs)][i] = api.Sig{Server: "spoilt"}
	}
	spoil(e.Content)
}

// TestMemory (R4): what is handed in is not changed, and shares nothing with what is told.
func TestMemory(t *testing.T) {
	r := rand.New(rand.NewSource(4))
	for range 1000 {
		e := roomyEvent(chanceEvent(r))
		if r.Intn(4) == 0 {
			e.Depth = -1
		}
		before := wholeEvent(e)
		got := Redact(e)
		if !reflect.DeepEqual(wholeEvent(e), before) {
			t.Fatalf("changed: %+v", e)
		}
		spoilEvent(got)
		if !reflect.DeepEqual(wholeEvent(e), before) {
			t.Fatalf("who writes over what was told writes over %+v", e)
		}
		got = Redact(e)
		want, _ := json.Marshal(got)
		spoilEvent(e)
		if now, _ := json.Marshal(got); !bytes.Equal(now, want) {
			t.Fatalf("who writes over what was handed in writes over what was told: %s became %s", want, now)
		}
	}
}

// TestKeysMemory (R4): who writes over the keys that were told changes nothing.
func TestKeysMemory(t *testing.T) {
	for kind, want := range keepers() {
		got := Keys(kind)
		for i := range got[:cap(got)] {
			got[:cap(got)][i] = "spoilt"
		}
		if again := Keys(kind); !slices.Equal(again, want) {
			t.Errorf("%s: %q", kind, again)
		}
		left(t, kind, message(kind, table([]string{want[0], "spoilt"}, null(), null())), `{"`+want[0]+`":null}`)
	}
}

// TestAlwaysTheSame (R5): again, and from several goroutines at once.
func TestAlwaysTheSame(t *testing.T) {
	e := full(api.TPower, table([]string{"users", "x", "ban"}, table([]string{"b", "a"}, null(), null()), null(), number(50)))
	want := Redact(e)
	var all sync.WaitGroup
	for range 8 {
		all.Add(1)
		go func() {
			defer all.Done()
			for range 100 {
				if got := Redact(e); !same(got, want) || len(Keys(api.TPower)) != 9 {
					t.Errorf("%+v", got)
					return
				}
			}
		}()
	}
	all.Wait()
}
