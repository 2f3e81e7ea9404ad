package canon

import (
	"math"
	"math/rand"
	"sync"
	"testing"

	"agora/api"
)

// TestCallsEnd (R1): on lists that hold themselves, on trees of any depth and on any bytes.
func TestCallsEnd(t *testing.T) {
	ring := make([]api.Json, 2)
	for i := range ring {
		ring[i] = list(ring...)
	}
	ring[0].List, ring[1].List = ring, ring
	loop := table([]string{"a", "b"}, ring...)
	for _, j := range []api.Json{list(ring...), loop, nested(10000, null())} {
		if Good(j) || !same(Order(j), api.Json{}) {
			t.Error("endless, but good")
		}
		if _, err := Encode(j); err != api.ErrArg {
			t.Error("endless, but encoded:", err)
		}
	}
	r := rand.New(rand.NewSource(1))
	for range 20000 {
		b := make([]byte, r.Intn(12))
		r.Read(b)
		if j, err, at := Decode(b); err != api.OK && !same(j, api.Json{}) || err == api.OK && at != 0 || at < 0 || at > len(b) {
			t.Fatalf("%q: told %+v, error %d at %d", b, j, err, at)
		}
	}
}

// TestAnyStruct (R1, R6): of values made of any parts, all calls say the same.
func TestAnyStruct(t *testing.T) {
	r := rand.New(rand.NewSource(2))
	ints := []int64{0, 1, 2, -1, api.MaxInt, api.MaxInt + 1, -api.MaxInt - 1, math.MaxInt64, math.MinInt64}
	texts := []string{"", "a", "b", "\xff", "\xed\xa0\x80", "\uFFFD"}
	var part func(deep int) api.Json
	part = func(deep int) api.Json {
		j := api.Json{Kind: r.Intn(8) - 1}
		if r.Intn(3) == 0 {
			j.Int = ints[r.Intn(len(ints))]
		}
		if r.Intn(3) == 0 {
			j.Text = texts[r.Intn(len(texts))]
		}
		for n := r.Intn(3); n > 0 && deep > 0 && j.Kind >= api.JList; n-- {
			j.List = append(j.List, part(deep-1))
			if r.Intn(4) > 0 {
				j.Keys = append(j.Keys, texts[r.Intn(len(texts))])
			}
		}
		return j
	}
	good := 0
	for range 20000 {
		j := part(4)
		b, err := Encode(j)
		if Good(j) != (err == api.OK) || Good(j) != Good(cloned(j)) {
			t.Fatalf("%+v: good %v, error %d", j, Good(j), err)
		}
		if Good(j) {
			good++
			if got := mustDecode(t, string(b)); !same(got, Order(j)) {
				t.Fatalf("%+v: decoded as %+v", j, got)
			}
		}
	}
	if good < 1000 {
		t.Error("too few good ones:", good)
	}
}

// TestEmptyListsAreTheSame (R3).
func TestEmptyListsAreTheSame(t *testing.T) {
	for kind := api.JNull; kind <= api.JMap; kind++ {
		a := api.Json{Kind: kind}
		b := api.Json{Kind: kind, Keys: []string{}, List: []api.Json{}}
		if !Good(a) || !Good(b) || !same(Order(a), Order(b)) || mustEncode(t, a) != mustEncode(t, b) {
			t.Errorf("kind %d: nil and empty are not the same", kind)
		}
	}
	if got, err, at := Decode(nil); err != api.ErrJson || at != 0 || !same(got, api.Json{}) {
		t.Errorf("Decode(nil): error %d at %d", err, at)
	}
	if got, err, at := Decode([]byte{}); err != api.ErrJson || at != 0 || !same(got, api.Json{}) {
		t.Errorf("Decode of no bytes: error %d at %d", err, at)
	}
}

// roomy tells the same value in lists that have something behind their ends.
func roomy(j api.Json) api.Json {
	l := make([]api.Json, 0, len(j.List)+2)
	for _, v := range j.List {
		l = append(l, roomy(v))
	}
	keys := append(make([]string, 0, len(j.Keys)+2), j.Keys...)
	n, m := len(l), len(keys)
	l = append(l, number(-5), text("behind"))
	keys = append(keys, "z", "y")
	j.List, j.Keys = l[:n], keys[:m]
	return j
}

// spoil writes over all memory of a value, and behind the ends of its lists.
func spoil(j api.Json) {
	l, keys := j.List[:cap(j.List)], j.Keys[:cap(j.Keys)]
	for i := range l {
		spoil(l[i])
		l[i] = text("spoilt")
	}
	for i := range keys {
		keys[i] = "spoilt"
	}
}

// TestMemory (R4): what is handed in is neither changed nor shared.
func TestMemory(t *testing.T) {
	r := rand.New(rand.NewSource(4))
	for range 500 {
		j := roomy(anyGood(r, 4))
		before := cloned(j)
		Good(j)
		ordered := Order(j)
		b, _ := Encode(j)
		if !untouched(before, j) {
			t.Fatalf("changed: %+v", j)
		}
		s := string(b)
		spoil(ordered)
		if !untouched(before, j) {
			t.Fatalf("what was told shares memory: %+v", j)
		}
		got, _, _ := Decode(b)
		if string(b) != s {
			t.Fatalf("bytes changed: %q", b)
		}
		for i := range b[:cap(b)] {
			b[:cap(b)][i] = '#'
		}
		want := mustDecode(t, s)
		if !same(got, want) {
			t.Fatalf("what was read shares memory with the bytes: %+v", got)
		}
		ordered = Order(j)
		spoil(j)
		if !same(ordered, want) {
			t.Fatalf("what was told shares memory: %+v", ordered)
		}
	}
	for _, j := range badOnes() {
		if before := cloned(j); !untouched(before, j) || Good(j) || !untouched(before, j) {
			t.Fatal("changed")
		}
	}
}

// TestListsOfAnAnswerAreApart (R4): no two lists of one answer share memory, though those that were handed in did.
func TestListsOfAnAnswerAreApart(t *testing.T) {
	shared := []api.Json{number(1), number(2)}
	keys := []string{"b", "a"}
	got := Order(list(list(shared...), list(shared...), table(keys, shared...), table(keys, shared...)))
	got.List[0].List[0] = null()
	got.List[2].List[0] = null()
	got.List[2].Keys[0] = "x"
	want := list(list(null(), number(2)), list(number(1), number(2)),
		table([]string{"x", "b"}, null(), number(1)), table([]string{"a", "b"}, number(2), number(1)))
	if !same(got, want) {
		t.Errorf("told %+v", got)
	}
}

// TestAlwaysTheSame (R5): again, and from several goroutines at once.
func TestAlwaysTheSame(t *testing.T) {
	r := rand.New(rand.NewSource(5))
	j := shuffled(r, mustDecode(t, `{"d":{"y":1,"x":2},"a":1,"c":[{"q":1,"p":2}],"b":"é"}`))
	want := `{"a":1,"b":"é","c":[{"p":2,"q":1}],"d":{"x":2,"y":1}}`
	var all sync.WaitGroup
	for range 8 {
		all.Add(1)
		go func() {
			defer all.Done()
			for range 200 {
				b, err := Encode(j)
				_, twice, at := Decode([]byte(`{"a":1,"b":{"c":1,"c":2},"a":3}`))
				if string(b) != want || err != api.OK || twice != api.ErrTwice || at != 18 {
					t.Errorf("told %s, error %d; error %d at %d", b, err, twice, at)
					return
				}
			}
		}()
	}
	all.Wait()
}
