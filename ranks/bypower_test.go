package ranks

import (
	"math"
	"math/rand"
	"testing"

	"agora/api"
)

// TestByPowerExample (12.4): the chapter's own.
func TestByPowerExample(t *testing.T) {
	b := &builder{}
	c := b.put(create(ann))
	weak, strong := b.put(gives(bob, bob, 1), c), b.put(gives(ann, ann, 1), c)
	is(t, "told", ByPower(b.past, []int{weak, strong}), "2 1")
	is(t, "told the other way round", ByPower(b.past, []int{strong, weak}), "2 1")
}

// TestByPowerOfRoom (12.4): the chain first, whatever the levels; else who has more.
func TestByPowerOfRoom(t *testing.T) {
	p := roomOf()
	for set, want := range map[string]string{
		"":                  "",
		"0":                 "0",
		"8":                 "8",
		"0 1 2 3 4 5 6 7 8": "0 1 2 7 3 5 8 4 6", // ann's 7 has 100, as soon as 2 is told; cat's 4 has 0, and 6 leans on it
		"6 5 2":             "2 5 6",
		"3 4 7 8":           "7 3 8 4",
		"4 6 8":             "8 4 6",
		"8 8 2 8 2":         "2 8",
		"-1 9 8 -5 1":       "1 8",
		"-1":                "",
		"100 9":             "",
	} {
		is(t, "of "+set, ByPower(p, row(t, set)), want)
	}
	is(t, "any number", ByPower(p, []int{math.MaxInt, 2, math.MinInt}), "2")
	is(t, "nothing of nothing", ByPower(api.Past{}, nil), "")
	is(t, "none of nothing", ByPower(api.Past{}, []int{0}), "")
}

// TestByPowerByChain (12.4): who is in the chain by way of others, that are not in the set, stands first all the same.
func TestByPowerByChain(t *testing.T) {
	b := &builder{}
	c := b.put(create(ann))
	weak := b.put(member(bob, bob, "join"), c)      // 0
	between := b.put(message(cat), weak)            // 0, not in the set
	farther := b.put(message(cat), between, c)      // 0, not in the set
	strong := b.put(gives(ann, ann, 1), farther, c) // 100
	middle := b.put(gives(ann, ann, 50), c)         // 100, later
	is(t, "strong behind weak", ByPower(b.past, []int{strong, weak}), "1 4")
	is(t, "middle needs nobody", ByPower(b.past, []int{strong, weak, middle}), "5 1 4")
	is(t, "without weak", ByPower(b.past, []int{strong, middle}), "4 5")
	is(t, "with one that is between", ByPower(b.past, []int{strong, between, weak, middle}), "5 1 2 4")
	is(t, "with all", ByPower(b.past, []int{5, 4, 3, 2, 1, 0}), "0 5 1 2 3 4")
}

// TestByPowerIsNotHeldUp (12.4): places that are not in the set do not stand in a row of their own: who waits for them waits for nothing.
func TestByPowerIsNotHeldUp(t *testing.T) {
	b := &builder{}
	c := b.put(create(ann))
	at := c
	for range 5 {
		at = b.put(message(cat), at)
	}
	strong := b.put(message(ann), at, c)
	weak := b.put(message(bob), c)
	is(t, "far from the creation", ByPower(b.past, []int{weak, strong}), "6 7")
	is(t, "with the creation", ByPower(b.past, []int{weak, strong, c}), "0 6 7")
}

// TestByPowerSteps (12.4): the greater level, then the less Ts, then the less name, then the less place; each step alone, against the next ones.
func TestByPowerSteps(t *testing.T) {
	type one struct {
		level, ts int64
		name      string
	}
	for what, l := range map[string]struct {
		first, second one
	}{
		"level":                {one{51, 9, "z"}, one{50, 1, "a"}},
		"a level below 0":      {one{-1, 9, "z"}, one{-2, 1, "a"}},
		"the greatest level":   {one{api.MaxLevel, 9, "z"}, one{-api.MaxLevel, 1, "a"}},
		"time":                 {one{5, 1, "z"}, one{5, 2, "a"}},
		"a time below 0":       {one{5, -2, "z"}, one{5, -1, "a"}},
		"times far apart":      {one{5, math.MinInt64, "z"}, one{5, math.MaxInt64, "a"}},
		"name":                 {one{5, 1, "a"}, one{5, 1, "b"}},
		"great letters":        {one{5, 1, "B"}, one{5, 1, "a"}},
		"the longer name":      {one{5, 1, "a"}, one{5, 1, "aa"}},
		"the empty name":       {one{5, 1, ""}, one{5, 1, "\x00"}},
		"bytes, not letters":   {one{5, 1, "\uffff"}, one{5, 1, "\U00010000"}},
		"bytes that are none":  {one{5, 1, "a\u00e9"}, one{5, 1, "a\xff"}},
		"numbers are no words": {one{5, 1, "10"}, one{5, 1, "9"}},
	} {
		put := func(b *builder, o one) {
			at := b.put(gives(ann, bob, o.level))
			b.add(message(bob), o.ts, o.name, at)
		}
		b := &builder{}
		put(b, l.first)
		put(b, l.second)
		is(t, what, ByPower(b.past, []int{1, 3}), "1 3")
		is(t, what+", as it came", ByPower(b.past, []int{3, 1}), "1 3")
		b = &builder{}
		put(b, l.second)
		put(b, l.first)
		is(t, what+", the second one ahead", ByPower(b.past, []int{1, 3}), "3 1")
		is(t, what+", the second one ahead, as it came", ByPower(b.past, []int{3, 1}), "3 1")
	}
}

// TestByPowerOfTheSame (12.4): the same level, the same Ts, the same name: by place.
func TestByPowerOfTheSame(t *testing.T) {
	b := &builder{}
	for range 40 {
		b.add(message(ann), 7, "$same")
	}
	var up, down []int
	for i := range 40 {
		up, down = append(up, i), append(down, 39-i)
	}
	equal(t, "rising", ByPower(b.past, up), up)
	equal(t, "falling", ByPower(b.past, down), up)
	equal(t, "both", ByPower(b.past, append(down, up...)), up)
}

// TestByPowerByChance (12.4): against the words of chapters 9 and 12.
func TestByPowerByChance(t *testing.T) {
	r := rand.New(rand.NewSource(124))
	ranked := 0
	for range 4000 {
		p := chancePast(r, r.Intn(13))
		set := chanceSet(r, len(p.Events))
		got := ByPower(p, set)
		equal(t, "told", got, modelByPower(p, set))
		if t.Failed() {
			t.Fatalf("%v of %+v", set, p)
		}
		for k := 1; k < len(got); k++ {
			if got[k-1] > got[k] {
				ranked++
				break
			}
		}
	}
	if ranked < 500 {
		t.Error("too few that do not rise:", ranked)
	}
}
