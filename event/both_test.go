package event

import (
	"math/rand"
	"slices"
	"testing"

	"agora/api"
	"agora/canon"
)

// chanceText tells a text by chance, of letters that both writers write alike.
func chanceText(r *rand.Rand) string {
	some := []string{"a", "b", "key", "\"", "\\", "\n", "\x01", "é", "<", "\U0001F600", " "}
	s := ""
	for range r.Intn(4) {
		s += some[r.Intn(len(some))]
	}
	return s
}

// chanceValue tells a good value by chance, no deeper than that.
func chanceValue(r *rand.Rand, deep int) api.Json {
	kinds := 6
	if deep == 1 {
		kinds = 4
	}
	switch r.Intn(kinds) {
	case 0:
		return null()
	case 1:
		return truth(r.Int63n(2))
	case 2:
		return number(r.Int63n(2*api.MaxInt+1) - api.MaxInt)
	case 3:
		return text(chanceText(r))
	case 4:
		j := list()
		for range r.Intn(4) {
			j.List = append(j.List, chanceValue(r, deep-1))
		}
		return j
	}
	return chanceMap(r, deep)
}

func chanceMap(r *rand.Rand, deep int) api.Json {
	j := table(nil)
	for range r.Intn(4) {
		if k := chanceText(r); !slices.Contains(j.Keys, k) {
			j.Keys, j.List = append(j.Keys, k), append(j.List, chanceValue(r, deep-1))
		}
	}
	return j
}

// chanceEvent tells a well shaped event by chance.
func chanceEvent(r *rand.Rand) api.Event {
	row := func(most int) []string {
		l := names(most)
		r.Shuffle(len(l), func(a, b int) { l[a], l[b] = l[b], l[a] })
		return l[:r.Intn(most+1)]
	}
	e := plain()
	e.Content = chanceMap(r, 5)
	e.Prev, e.Auth = row(api.MaxPrev), row(api.MaxAuth)
	e.Depth, e.Ts = r.Int63n(api.MaxHeight+1), r.Int63n(api.MaxInt+1)
	if r.Intn(2) == 0 {
		e.IsState, e.Key = true, chanceText(r)
	}
	if r.Intn(2) == 0 {
		e.Hash = letters(r.Uint64())
	}
	for _, server := range []string{"a", "a-b", "s1", "s2"} {
		if r.Intn(2) == 0 {
			e.Sigs = append(e.Sigs, api.Sig{Server: server, Token: letters(r.Uint64())})
		}
	}
	return e
}

// TestBothWays (5.5): an event and its JSON are the same twice over, and its bytes are Go's own writer's.
func TestBothWays(t *testing.T) {
	r := rand.New(rand.NewSource(55))
	for range 1500 {
		e := chanceEvent(r)
		taken(t, "by chance", e)
		j := ToJson(e)
		got, err := FromJson(shuffled(r, j))
		if err != api.OK || !sameJson(ToJson(got), j) {
			t.Fatalf("%+v became %+v, error %d", j, ToJson(got), err)
		}
	}
}

// TestOrderOfContent (5.5): events that differ in the order of their contents alone have one JSON.
func TestOrderOfContent(t *testing.T) {
	r := rand.New(rand.NewSource(56))
	for range 300 {
		e := chanceEvent(r)
		other := e
		other.Content = shuffled(r, e.Content)
		a, _ := Encode(e)
		b, _ := Encode(other)
		if string(a) != string(b) || !sameJson(ToJson(e), ToJson(other)) {
			t.Fatalf("%s and %s", a, b)
		}
	}
}

// TestApart (5.5): events that differ in anything else have other bytes.
func TestApart(t *testing.T) {
	seen := map[string]string{}
	more := append(rightOnes(),
		change{"another room", func(e *api.Event) { e.Room = "!r:s2" }},
		change{"another type", func(e *api.Event) { e.Type = "m" }},
		change{"another sender", func(e *api.Event) { e.Sender = "@bob:s1" }},
		change{"another prev", func(e *api.Event) { e.Prev = names(1) }},
		change{"another auth", func(e *api.Event) { e.Auth = names(1) }},
		change{"another depth", func(e *api.Event) { e.Depth = 99 }},
		change{"another time", func(e *api.Event) { e.Ts = 7 }},
	)
	var events []api.Event
	for _, c := range more {
		e := full()
		c.do(&e)
		e.Content = arranged(e.Content)
		if slices.ContainsFunc(events, func(o api.Event) bool { return same(o, e) }) {
			continue
		}
		events = append(events, e)
		b, err := Encode(e)
		if was, stood := seen[string(b)]; stood || err != api.OK {
			t.Errorf("%s: error %d, the bytes of: %s", c.what, err, was)
		}
		seen[string(b)] = c.what
	}
	if len(events) < 30 {
		t.Error("too few:", len(events))
	}
}

// TestJsonThatIsNone (5.5): a value that FromJson takes is ToJson's of what it tells, also where it was changed by chance.
func TestJsonThatIsNone(t *testing.T) {
	r := rand.New(rand.NewSource(57))
	counts := map[api.Errno]int{}
	for range 5000 {
		j := ToJson(chanceEvent(r))
		at := r.Intn(len(j.List))
		switch r.Intn(5) {
		case 0:
			j.List[at] = chanceValue(r, 3)
		case 1:
			j = without(j, j.Keys[at])
		case 2:
			j.Keys[at] = j.Keys[r.Intn(len(j.Keys))]
		case 3:
			if v := &j.List[at]; len(v.List) > 0 {
				v.List[r.Intn(len(v.List))] = chanceValue(r, 2)
			}
		}
		e, err := FromJson(j)
		counts[err]++
		if err == api.OK && (!sameJson(ToJson(e), canon.Order(j)) || Shape(e) != api.OK) {
			t.Fatalf("%+v became %+v", j, e)
		}
		if err != api.OK && (err != api.ErrShape || !same(e, api.Event{})) {
			t.Fatalf("%+v: error %d beside %+v", j, err, e)
		}
	}
	if counts[api.OK] < 1000 || counts[api.ErrShape] < 1000 {
		t.Error("too few:", counts)
	}
}
