package event

import (
	"bytes"
	"math/rand"
	"reflect"
	"strings"
	"sync"
	"testing"

	"agora/api"
)

// TestCallsEnd (R1): on contents that hold themselves, on rows of any length, on any bytes.
func TestCallsEnd(t *testing.T) {
	ring := make([]api.Json, 2)
	ring[0], ring[1] = list(ring...), table([]string{"a", "b"}, ring...)
	ring[0].List, ring[1].List = ring, ring
	e := full()
	e.Content = ring[1]
	refused(t, "a ring", e, api.ErrShape)
	noEvent(t, "a ring", ring[1], api.ErrShape)
	noEvent(t, "a ring within", with(wantJson(), "content", ring[1]), api.ErrShape)
	e.Content = nested(10000)
	refused(t, "a deep tree", e, api.ErrShape)
	e = full()
	e.Prev, e.Auth = names(100000), names(100000)
	refused(t, "long rows", e, api.ErrShape)
	e = full()
	e.Sigs, e.Hash, e.Key = make([]api.Sig, 100000), strings.Repeat("A", 1<<20), strings.Repeat("A", 1<<20)
	refused(t, "long texts", e, api.ErrShape)
	r := rand.New(rand.NewSource(1))
	for range 5000 {
		b := []byte(fullBytes)
		for range 1 + r.Intn(3) {
			b[r.Intn(len(b))] = byte(r.Intn(256))
		}
		b = b[r.Intn(2):]
		e, err := Decode(b)
		if err != api.OK && !same(e, api.Event{}) || err == api.OK && Shape(e) != api.OK {
			t.Fatalf("%q: %+v, error %d", b, e, err)
		}
	}
}

// TestAnyValue (R1, R2): of values made of any parts FromJson tells nothing but an event, or ErrShape.
func TestAnyValue(t *testing.T) {
	r := rand.New(rand.NewSource(2))
	keys := append(wantJson().Keys, "x")
	var part func(deep int) api.Json
	part = func(deep int) api.Json {
		j := api.Json{Kind: r.Intn(8) - 1, Int: r.Int63n(3) - 1, Text: []string{"", "!r:s1", "\xff"}[r.Intn(3)]}
		for n := r.Intn(13); n > 0 && deep > 0; n-- {
			j.List = append(j.List, part(deep-1))
			if r.Intn(6) > 0 {
				j.Keys = append(j.Keys, keys[r.Intn(len(keys))])
			}
		}
		return j
	}
	for range 3000 {
		noEvent(t, "any value", part(2), api.ErrShape)
		noEvent(t, "any token", with(wantJson(), "sigs", table([]string{"s1"}, part(2))), api.ErrShape)
	}
}

// TestEmptyListsAreTheSame (R3).
func TestEmptyListsAreTheSame(t *testing.T) {
	a, b := plain(), plain()
	b.Prev, b.Auth, b.Sigs = []string{}, []string{}, []api.Sig{}
	b.Content = api.Json{Kind: api.JMap, Keys: []string{}, List: []api.Json{}}
	x, _ := Encode(a)
	y, _ := Encode(b)
	if Shape(a) != api.OK || Shape(b) != api.OK || string(x) != string(y) || !sameJson(ToJson(a), ToJson(b)) {
		t.Errorf("%s and %s", x, y)
	}
	j := ToJson(plain())
	for i := range j.List {
		if len(j.List[i].List) == 0 {
			j.List[i].Keys, j.List[i].List = []string{}, []api.Json{}
		}
	}
	if e, err := FromJson(j); err != api.OK || !same(e, plain()) {
		t.Errorf("%+v, error %d", e, err)
	}
	for _, none := range [][]byte{nil, {}} {
		if e, err := Decode(none); err != api.ErrJson || !same(e, api.Event{}) {
			t.Errorf("no bytes: %+v, error %d", e, err)
		}
	}
}

// roomy tells the same value in lists that have something behind their ends.
func roomy(j api.Json) api.Json {
	l := make([]api.Json, 0, len(j.List)+2)
	for _, v := range j.List {
		l = append(l, roomy(v))
	}
	n, m := len(l), len(j.Keys)
	j.Keys = append(append(make([]string, 0, m+2), j.Keys...), "z", "y")[:m]
	j.List = append(l, number(-5), text("behind"))[:n]
	return j
}

// whole tells a value with all that lies behind the ends of its lists.
func whole(j api.Json) api.Json {
	l := append([]api.Json{}, j.List[:cap(j.List)]...)
	for i := range l {
		l[i] = whole(l[i])
	}
	j.List, j.Keys = l, append([]string{}, j.Keys[:cap(j.Keys)]...)
	return j
}

// roomyEvent tells an event whose rows have something behind their ends.
func roomyEvent(e api.Event) api.Event {
	n, m, k := len(e.Prev), len(e.Auth), len(e.Sigs)
	e.Prev = append(append(make([]string, 0, n+2), e.Prev...), "x", "y")[:n]
	e.Auth = append(append(make([]string, 0, m+2), e.Auth...), "x", "y")[:m]
	e.Sigs = append(append(make([]api.Sig, 0, k+1), e.Sigs...), api.Sig{Server: "x", Token: "y"})[:k]
	e.Content = roomy(e.Content)
	return e
}

// wholeEvent tells an event with all that lies behind the ends of its rows.
func wholeEvent(e api.Event) api.Event {
	e.Prev = append([]string{}, e.Prev[:cap(e.Prev)]...)
	e.Auth = append([]string{}, e.Auth[:cap(e.Auth)]...)
	e.Sigs = append([]api.Sig{}, e.Sigs[:cap(e.Sigs)]...)
	e.Content = whole(e.Content)
	return e
}

// spoil writes over all memory of a value, and behind the ends of its lists.
func spoil(j api.Json) {
	l, keys := j.List[:cap(j.List)], j.Keys[:cap(j.Keys)]
	for i := range l {
		spoil(l[i])
		l[i] = text("spoilt")
	}
	for i := range keys {
		keys[i] = "spoilt"
	}
}

// TestMemory (R4): what is handed in is not changed, nor shared with what is told.
func TestMemory(t *testing.T) {
	r := rand.New(rand.NewSource(4))
	for range 300 {
		e := roomyEvent(chanceEvent(r))
		before := wholeEvent(e)
		Shape(e)
		j := ToJson(e)
		b, _ := Encode(e)
		want := string(b)
		spoil(j)
		for i := range b[:cap(b)] {
			b[:cap(b)][i] = '#'
		}
		if !reflect.DeepEqual(wholeEvent(e), before) {
			t.Fatalf("changed: %+v", e)
		}
		if b, _ := Encode(e); string(b) != want {
			t.Fatalf("%s is now %s", want, b)
		}
	}
}

// TestMemoryBack (R4): neither a value nor bytes that are read are changed or shared.
func TestMemoryBack(t *testing.T) {
	r := rand.New(rand.NewSource(5))
	for range 300 {
		j := roomy(shuffled(r, ToJson(chanceEvent(r))))
		before := whole(j)
		e, err := FromJson(j)
		if !reflect.DeepEqual(whole(j), before) || err != api.OK {
			t.Fatalf("changed: %+v, error %d", j, err)
		}
		b, _ := Encode(e)
		spoil(j)
		if again, _ := Encode(e); !bytes.Equal(b, again) {
			t.Fatalf("what was told shares memory: %s is now %s", b, again)
		}
		kept := string(b)
		f, _ := Decode(b)
		if string(b) != kept {
			t.Fatalf("bytes changed: %s", b)
		}
		for i := range b {
			b[i] = '#'
		}
		if !same(e, f) {
			t.Fatalf("what was read shares memory with the bytes: %+v", f)
		}
	}
}

// TestAlwaysTheSame (R5): again, and from several goroutines at once.
func TestAlwaysTheSame(t *testing.T) {
	e, j, both := full(), wantJson(), with(wantJson(), "x", null())
	var all sync.WaitGroup
	for range 8 {
		all.Add(1)
		go func() {
			defer all.Done()
			for range 100 {
				b, err := Encode(e)
				f, fault := FromJson(j)
				again, _ := Encode(f)
				_, none := FromJson(both)
				if string(b) != fullBytes || err != api.OK || fault != api.OK || string(again) != fullBytes || none != api.ErrShape {
					t.Errorf("%s, error %d; %s, error %d; error %d", b, err, again, fault, none)
					return
				}
			}
		}()
	}
	all.Wait()
}
