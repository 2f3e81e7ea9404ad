package seal

import (
	"math/rand"
	"reflect"
	"slices"
	"strings"
	"testing"

	"agora/api"
	"agora/ident"
)

// TestNoTable (R1, 7.1, 7.2): a nil table, and one that New did not make.
func TestNoTable(t *testing.T) {
	known := mustTable(t, homes()...)
	for i, o := range tables(t)[2:] {
		for _, e := range several(t) {
			for _, f := range append(borne(e), mustSeal(t, known, e, ident.Home(e.Sender))) {
				if h, err := Hash(o, f); h != "" || err != api.OK {
					t.Errorf("%d: hash %q, error %d", i, h, err)
				}
				if n, err := Name(o, f); n != "$" || err != api.OK {
					t.Errorf("%d: name %q, error %d", i, n, err)
				}
				for _, server := range append(homes(), "", "S") {
					refused(t, server, o, f, server, api.ErrNone)
				}
				unchecked(t, f.Type, o, f, api.ErrSig)
			}
		}
		counts(t, "a bare table", o, 0, 0)
	}
}

// TestNoServers (R1, 7.1, 7.2): a table for no servers digests and names, but nobody signs.
func TestNoServers(t *testing.T) {
	o := mustTable(t)
	e := hello()
	if mustHash(t, o, e) != letters(1) || mustName(t, o, e) != "$"+letters(2) {
		t.Error("the first two texts have other numbers")
	}
	refused(t, "no servers", o, e, "s1", api.ErrNone)
	e.Hash, e.Sigs = letters(1), []api.Sig{sig("s1", letters(1))}
	unchecked(t, "no servers", o, e, api.ErrSig)
	counts(t, "no servers", o, 2, 0)
}

// TestCallsEnd (R1): on contents that hold themselves, are deep or wide, on long rows and names.
func TestCallsEnd(t *testing.T) {
	ring := make([]api.Json, 2)
	ring[0], ring[1] = list(), table([]string{"ban", "x"})
	ring[0].List, ring[1].List = ring, ring
	deep := null()
	for range 10000 {
		deep = list(deep)
	}
	wide := table(nil)
	for i := range 20000 {
		wide.Keys, wide.List = append(wide.Keys, letters(uint64(i))), append(wide.List, null())
	}
	put := func(content api.Json) api.Event {
		e := full()
		e.Content = content
		return e
	}
	rows := full()
	rows.Prev, rows.Auth, rows.Sigs = names(100000), names(100000), make([]api.Sig, 100000)
	for what, c := range map[string]struct {
		e    api.Event
		want api.Errno
	}{
		"a ring":    {put(ring[1]), api.ErrShape},
		"a tree":    {put(table([]string{"a"}, deep)), api.ErrShape},
		"a map":     {put(wide), api.ErrLong},
		"a text":    {put(table([]string{"membership"}, text(strings.Repeat("a", 1<<22)))), api.ErrLong},
		"long rows": {rows, api.ErrShape},
	} {
		for _, o := range tables(t) {
			h, err := Hash(o, c.e)
			n, fault := Name(o, c.e)
			if h != "" || n != "" || err != c.want || fault != c.want {
				t.Errorf("%s: hash %q, error %d; name %q, error %d", what, h, err, n, fault)
			}
			refused(t, what, o, c.e, "s2", c.want)
			unchecked(t, what, o, c.e, c.want)
		}
	}
}

// TestEmptyListsAreTheSame (R3).
func TestEmptyListsAreTheSame(t *testing.T) {
	o := mustTable(t, "s1")
	a, b := plain(), plain()
	b.Content.Keys, b.Content.List, b.Prev, b.Auth, b.Sigs = []string{}, []api.Json{}, []string{}, []string{}, []api.Sig{}
	if mustHash(t, o, a) != mustHash(t, o, b) || mustName(t, o, a) != mustName(t, o, b) {
		t.Error("an empty list changes the bytes")
	}
	x, y := mustSeal(t, o, a, "s1"), mustSeal(t, o, b, "s1")
	if !same(x, y) {
		t.Errorf("%+v and %+v", x, y)
	}
	b.Hash, b.Sigs = x.Hash, x.Sigs
	checked(t, "empty lists", o, b, x, true)
	unchecked(t, "no lists", o, a, api.ErrSig)
	// There is nothing to hide, so that contents and face are one text, as long as there is no digest.
	counts(t, "all", o, 1, 1)
}

// roomy tells the same value in lists that have something behind their ends.
func roomy(j api.Json) api.Json {
	l := make([]api.Json, 0, len(j.List)+2)
	for _, v := range j.List {
		l = append(l, roomy(v))
	}
	n, m := len(l), len(j.Keys)
	j.Keys = append(append(make([]string, 0, m+2), j.Keys...), "z", "y")[:m]
	j.List = append(l, number(-5), text("behind"))[:n]
	return j
}

// deepest tells a value with all that lies behind the ends of its lists.
func deepest(j api.Json) api.Json {
	l := append([]api.Json{}, j.List[:cap(j.List)]...)
	for i := range l {
		l[i] = deepest(l[i])
	}
	j.List, j.Keys = l, append([]string{}, j.Keys[:cap(j.Keys)]...)
	return j
}

// roomyEvent tells an event whose rows have something behind their ends.
func roomyEvent(e api.Event) api.Event {
	n, m, k := len(e.Prev), len(e.Auth), len(e.Sigs)
	e.Prev = append(append(make([]string, 0, n+2), e.Prev...), "x", "y")[:n]
	e.Auth = append(append(make([]string, 0, m+2), e.Auth...), "x", "y")[:m]
	e.Sigs = append(append(make([]api.Sig, 0, k+1), e.Sigs...), sig("x", "y"))[:k]
	e.Content = roomy(e.Content)
	return e
}

// wholeEvent tells an event with all that lies behind the ends of its rows.
func wholeEvent(e api.Event) api.Event {
	e.Prev = append([]string{}, e.Prev[:cap(e.Prev)]...)
	e.Auth = append([]string{}, e.Auth[:cap(e.Auth)]...)
	e.Sigs = append([]api.Sig{}, e.Sigs[:cap(e.Sigs)]...)
	e.Content = deepest(e.Content)
	return e
}

// spoil writes over all memory of a value, and behind the ends of its lists.
func spoil(j api.Json) {
	l, keys := j.List[:cap(j.List)], j.Keys[:cap(j.Keys)]
	for i := range l {
		spoil(l[i])
		l[i] = text("spoilt")
	}
	for i := range keys {
		keys[i] = "spoilt"
	}
}

// spoilEvent writes over all memory of an event.
func spoilEvent(e api.Event) {
	for _, row := range [][]string{e.Prev[:cap(e.Prev)], e.Auth[:cap(e.Auth)]} {
		for i := range row {
			row[i] = "spoilt"
		}
	}
	for i := range e.Sigs[:cap(e.Sigs)] {
		e.Sigs[:cap(e.Sigs)][i] = sig("spoilt", "spoilt")
	}
	spoil(e.Content)
}

// TestMemory (R4): what is handed in is not changed, and shares nothing with what is told, whole or not.
func TestMemory(t *testing.T) {
	r := rand.New(rand.NewSource(4))
	o := mustTable(t, "s1", "s2", "s3")
	for range 500 {
		e := chanceEvent(r)
		s := mustSeal(t, o, e, ident.Home(e.Sender))
		turned := s
		turned.Content = backwards(s.Content)
		turned.Content.Keys, turned.Content.List = append(turned.Content.Keys, "b"), append(turned.Content.List, null())
		calls := []func(e api.Event) api.Event{
			func(e api.Event) api.Event { mustHash(t, o, e); return api.Event{} },
			func(e api.Event) api.Event { mustName(t, o, e); return api.Event{} },
			func(e api.Event) api.Event { got, _ := Seal(o, e, ident.Home(e.Sender)); return got },
			func(e api.Event) api.Event { got, _ := Seal(o, e, "s9"); return got },
			func(e api.Event) api.Event { got, _, _ := Check(o, e); return got },
		}
		for _, one := range []api.Event{e, s, turned} {
			for i, call := range calls {
				in := roomyEvent(one)
				before := wholeEvent(in)
				got := call(in)
				if !reflect.DeepEqual(wholeEvent(in), before) {
					t.Fatalf("%d: changed: %+v", i, in)
				}
				spoilEvent(got)
				if !reflect.DeepEqual(wholeEvent(in), before) {
					t.Fatalf("%d: who writes over what was told writes over %+v", i, in)
				}
				got = call(in)
				want := wholeEvent(got)
				spoilEvent(in)
				if !reflect.DeepEqual(wholeEvent(got), want) {
					t.Fatalf("%d: who writes over what was handed in writes over what was told: %+v", i, got)
				}
			}
		}
	}
}

// TestNotKept (R4): who writes over an event, or what was told of it, changes nothing that is told later.
func TestNotKept(t *testing.T) {
	o := mustTable(t, homes()...)
	e := full()
	s := mustSeal(t, o, e, "s2")
	b := goBytes(s)
	got, _, _ := Check(o, s)
	spoilEvent(e)
	spoilEvent(got)
	if again := mustSeal(t, o, full(), "s2"); !slices.Equal(goBytes(again), b) {
		t.Errorf("%+v", again)
	}
	checked(t, "sealed", o, s, s, true)
	counts(t, "all", o, 1, 1)
}

// TestAlwaysTheSame (R5): the same calls at new tables tell the same; again at one table, too.
func TestAlwaysTheSame(t *testing.T) {
	var told []string
	for range 20 {
		r := rand.New(rand.NewSource(5))
		o := mustTable(t, "s1", "s2", "s3")
		var now []string
		for range 100 {
			e := chanceEvent(r)
			s := mustSeal(t, o, e, ident.Home(e.Sender))
			now = append(now, mustHash(t, o, s), mustName(t, o, s), string(goBytes(s)))
			texts, tokens := o.Texts(), o.Tokens()
			if again := mustSeal(t, o, e, ident.Home(e.Sender)); !same(again, s) || mustName(t, o, again) != now[len(now)-2] {
				t.Fatalf("%+v, then %+v", s, again)
			}
			checked(t, "again", o, s, s, true)
			counts(t, "again", o, texts, tokens)
		}
		if told == nil {
			told = now
		}
		if !slices.Equal(told, now) {
			t.Fatalf("%q, then %q", told, now)
		}
	}
}
