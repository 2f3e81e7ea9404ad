package redact

import (
	"encoding/json"
	"math/rand"
	"slices"
	"testing"

	"agora/api"
	"agora/canon"
	"agora/event"
)

// pick tells one of a row by chance.
func pick[T any](r *rand.Rand, row []T) T { return row[r.Intn(len(row))] }

// chanceValue tells a good value by chance, no deeper than that.
func chanceValue(r *rand.Rand, deep int) api.Json {
	switch n := r.Intn(6); {
	case n == 0:
		return null()
	case n == 1:
		return truth(r.Int63n(2))
	case n == 2 || deep == 1:
		return number(r.Int63n(2*api.MaxInt+1) - api.MaxInt)
	case n == 3:
		return text(pick(r, []string{"", "a", "join", "é\n", "\"\\"}))
	case n == 4:
		j := list()
		for range r.Intn(4) {
			j.List = append(j.List, chanceValue(r, deep-1))
		}
		return j
	}
	return chanceMap(r, deep, []string{"a", "b", "ba", "", "ban", "é", "creator"})
}

// chanceMap tells a map of some of these keys, in any order.
func chanceMap(r *rand.Rand, deep int, keys []string) api.Json {
	j := table(nil)
	for _, at := range r.Perm(len(keys)) {
		if r.Intn(2) == 0 {
			j.Keys, j.List = append(j.Keys, keys[at]), append(j.List, chanceValue(r, deep-1))
		}
	}
	return j
}

// chanceEvent tells a well shaped event by chance.
func chanceEvent(r *rand.Rand) api.Event {
	kinds := []string{api.TCreate, api.TMember, api.TPower, api.TPower, api.TRules, api.TMessage, api.TName, api.TRedact, api.TDummy, "m.x"}
	keys := []string{"body", "name", "reason", "redacts", "a", "~", "Ban", "user", "users_"}
	for _, l := range keepers() {
		keys = append(keys, l...)
	}
	slices.Sort(keys)
	e := full(pick(r, kinds), chanceMap(r, 4, keys))
	if r.Intn(2) == 0 {
		e.IsState, e.Key = false, ""
	}
	e.Prev, e.Auth = names(r.Intn(api.MaxPrev+1)), names(r.Intn(api.MaxAuth+1))
	e.Depth, e.Ts, e.Sigs = r.Int63n(api.MaxHeight+1), r.Int63n(api.MaxInt+1), e.Sigs[:r.Intn(3)]
	return e
}

// goBytes tells an event's bytes with a content that a function changes, by Go's own JSON reader and writer.
func goBytes(t *testing.T, e api.Event, change func(content map[string]json.RawMessage)) string {
	t.Helper()
	b, err := event.Encode(e)
	var all, content map[string]json.RawMessage
	if err != api.OK || json.Unmarshal(b, &all) != nil || json.Unmarshal(all["content"], &content) != nil {
		t.Fatalf("%+v: error %d", e, err)
	}
	change(content)
	all["content"], _ = json.Marshal(content)
	out, fault := json.Marshal(all)
	if fault != nil {
		t.Fatal(fault)
	}
	return string(out)
}

// TestAgainstModel (6.1): the redaction's bytes are the event's without the keys that the chapter does not name.
func TestAgainstModel(t *testing.T) {
	r := rand.New(rand.NewSource(61))
	count := 0
	for range 2000 {
		e := chanceEvent(r)
		want := goBytes(t, e, func(content map[string]json.RawMessage) {
			for key := range content {
				if !slices.Contains(keepers()[e.Type], key) {
					delete(content, key)
				}
			}
		})
		got, err := event.Encode(Redact(e))
		if err != api.OK || string(got) != want {
			t.Fatalf("%s, not %s", got, want)
		}
		count += len(Redact(e).Content.Keys)
	}
	if count < 2000 {
		t.Error("too few keys were kept:", count)
	}
}

// TestTwice (6.2): what is redacted twice is redacted once.
func TestTwice(t *testing.T) {
	r := rand.New(rand.NewSource(62))
	for range 2000 {
		once := Redact(chanceEvent(r))
		if again := Redact(once); !same(again, once) {
			t.Fatalf("%+v became %+v", once, again)
		}
	}
	for _, key := range []string{"reason", "membership"} {
		once := Redact(long(t, api.TMember, key, 2*api.MaxBytes))
		if again := Redact(once); !same(again, once) || same(once, api.Event{}) {
			t.Errorf("a long %s became %+v", key, again)
		}
	}
	if nothing := Redact(Redact(api.Event{})); !same(nothing, api.Event{}) {
		t.Errorf("nothing became %+v", nothing)
	}
}

// TestShapeStays (6.2): a well shaped event's redaction is well shaped, in order, and the rest is as it was.
func TestShapeStays(t *testing.T) {
	r := rand.New(rand.NewSource(63))
	for range 2000 {
		e := chanceEvent(r)
		got := Redact(e)
		if event.Shape(e) != api.OK || event.Shape(got) != api.OK {
			t.Fatalf("%+v: error %d; %+v: error %d", e, event.Shape(e), got, event.Shape(got))
		}
		if !sameRest(got, e) || !sameJson(got.Content, canon.Order(got.Content)) {
			t.Fatalf("%+v became %+v", e, got)
		}
	}
}

// TestKeptAlone (6.2): what is kept hangs on kept keys alone, not on others, nor on any order.
func TestKeptAlone(t *testing.T) {
	r := rand.New(rand.NewSource(64))
	for range 2000 {
		e := chanceEvent(r)
		other := e
		other.Content = chanceMap(r, 4, []string{"body", "reason", "x", "zz", "", "USERS", "bann"})
		for i, key := range e.Content.Keys {
			if slices.Contains(keepers()[e.Type], key) {
				at := r.Intn(len(other.Content.Keys) + 1)
				other.Content.Keys = slices.Insert(other.Content.Keys, at, key)
				other.Content.List = slices.Insert(other.Content.List, at, backwards(e.Content.List[i]))
			}
		}
		if a, b := Redact(e), Redact(other); !same(a, b) {
			t.Fatalf("%+v, but %+v", a.Content, b.Content)
		}
	}
}

// TestKeptTells (6.2): a kept key that is another one is seen in what is left.
func TestKeptTells(t *testing.T) {
	for kind, keys := range keepers() {
		for _, key := range keys {
			a, b := Redact(message(kind, table([]string{key}, text("a")))), Redact(message(kind, table([]string{key}, text("b"))))
			if same(a, b) || same(a, Redact(message(kind, table(nil)))) {
				t.Errorf("%s: %s is not kept", kind, key)
			}
		}
	}
}
