package ranks

import (
	"math"
	"math/rand"
	"testing"

	"agora/api"
)

// TestLevelOfRoom (12.3): by the levels that each event leans on, not by later ones.
func TestLevelOfRoom(t *testing.T) {
	p := roomOf()
	// The create event leans on nothing; what leans on it, and on no levels, has what Start says.
	for i, want := range []int64{0, 100, 100, 50, 0, 50, 50, 100, 50} {
		number(t, p.Events[i].Type, Level(p, i), want)
	}
	for _, i := range []int{-1, 9, math.MinInt, math.MaxInt} {
		number(t, "no place", Level(p, i), 0)
	}
	number(t, "in nothing", Level(api.Past{}, 0), 0)
}

// TestLevelByFirst (12.3): of two the first one of the row counts, wherever it stands in the past.
func TestLevelByFirst(t *testing.T) {
	b := &builder{}
	c := b.put(create(bob))
	low, high := b.put(gives(ann, ann, 7)), b.put(gives(ann, ann, 70))
	other := b.put(create(ann))
	for _, l := range []struct {
		what string
		auth []int
		want int64
	}{
		{"the low one first", []int{c, low, high}, 7},
		{"the high one first", []int{high, low, c}, 70},
		{"twice", []int{low, low, high}, 7},
		{"levels behind a create event", []int{other, low}, 7},
		{"a create event behind levels", []int{high, other}, 70},
		{"another one's create event", []int{c}, 0},
		{"the sender's create event", []int{other}, 100},
		{"another one's first", []int{c, other}, 0},
		{"the sender's first", []int{other, c}, 100},
		{"neither", nil, 0},
	} {
		at := b.put(message(ann), l.auth...)
		number(t, l.what, Level(b.past, at), l.want)
	}
	// Levels that are leaned on by others do not count.
	by := b.put(message(ann), low)
	number(t, "by way of another one", Level(b.past, b.put(message(ann), by)), 0)
	number(t, "levels' own", Level(b.past, b.put(gives(ann, ann, 3), low)), 7)
}

// TestLevelOfOtherKinds (12.3): what is not of a state, has a key, or is of another type, is passed over.
func TestLevelOfOtherKinds(t *testing.T) {
	b := &builder{}
	no := func(e api.Event) int {
		e.IsState = false
		return b.put(e)
	}
	keyed := func(e api.Event, key string) int {
		e.Key = key
		return b.put(e)
	}
	typed := func(e api.Event, kind string) int {
		e.Type = kind
		return b.put(e)
	}
	l, c := gives(ann, ann, 9), create(ann)
	right, begin := b.put(l), b.put(c)
	for what, wrong := range map[string]int{
		"no state": no(l), "a key": keyed(l, "x"), "the sender's key": keyed(l, ann), "rules": typed(l, api.TRules), "a type more": typed(l, api.TPower+"s"),
	} {
		number(t, what+" alone", Level(b.past, b.put(message(ann), wrong)), 0)
		number(t, what+", and a create event", Level(b.past, b.put(message(ann), wrong, begin)), 100)
		number(t, what+", and levels", Level(b.past, b.put(message(ann), wrong, right)), 9)
	}
	for what, wrong := range map[string]int{"no state": no(c), "a key": keyed(c, "x"), "a name": typed(c, api.TName)} {
		number(t, "create event of "+what, Level(b.past, b.put(message(ann), wrong)), 0)
		number(t, "create event of "+what+", and one", Level(b.past, b.put(message(ann), wrong, begin)), 100)
	}
}

// TestLevelOfContents (12.3): what Parse tells of the sender; 0, if it tells no levels, whatever stands behind.
func TestLevelOfContents(t *testing.T) {
	for content, want := range map[string]int64{
		`{"users":{"@ann:s1":42}}`:                      42,
		`{"users":{"@ann:s1":-42}}`:                     -42,
		`{"users":{"@bob:s2":42}}`:                      0,
		`{"users":{"@bob:s2":42},"users_default":5}`:    5,
		`{"users":{"@ann:s1":1},"users_default":5}`:     1,
		`{"users_default":-3}`:                          -3,
		`{}`:                                            0,
		`{"users":{"@ann:s1":1073741824}}`:              1 << 30,
		`{"users":{"@ann:s1":1073741825}}`:              0,
		`{"users":{"@ann:s1":42},"ban":"x"}`:            0,
		`{"users":{"@ann:s1":42,"x":1}}`:                0,
		`{"users":{"@ann:s1":"42"},"users_default":42}`: 0,
		`{"users":[],"users_default":42}`:               0,
		`[]`:                                            0,
		`null`:                                          0,
	} {
		b := &builder{}
		c, bad, good := b.put(create(ann)), b.put(levels(ann, content)), b.put(gives(ann, ann, 11))
		number(t, content, Level(b.past, b.put(message(ann), bad)), want)
		number(t, content+", then others", Level(b.past, b.put(message(ann), bad, good, c)), want)
		number(t, "others, then "+content, Level(b.past, b.put(message(ann), good, bad)), 11)
	}
}

// TestLevelIsOfAuthAlone (12.3): what is followed, and who was denied, does not count.
func TestLevelIsOfAuthAlone(t *testing.T) {
	p := roomOf()
	for i := range p.Denied {
		p.Denied[i] = true
		p.Prev[i] = nil
	}
	number(t, "levels", Level(p, 8), 50)
	number(t, "a create event", Level(p, 1), 100)
}

// TestLevelByChance (12.3): against the chapter's words.
func TestLevelByChance(t *testing.T) {
	r := rand.New(rand.NewSource(123))
	counts := map[int64]int{}
	for range 2000 {
		p := chancePast(r, 1+r.Intn(12))
		for i := -1; i <= len(p.Events); i++ {
			got := Level(p, i)
			number(t, "level", got, modelLevel(p, i))
			counts[got]++
		}
		if t.Failed() {
			t.Fatalf("%+v", p)
		}
	}
	for _, n := range []int64{-5, 0, 1, 7, 50, 100} {
		if counts[n] < 20 {
			t.Errorf("%d: %d times", n, counts[n])
		}
	}
}
