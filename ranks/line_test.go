package ranks

import (
	"math"
	"math/rand"
	"slices"
	"testing"

	"agora/api"
)

// branches is a past of two lines that part: 0 is created; 1, 2, 3 are levels of one line; 4, 5 of another one, that parts from it at 1; 6 are levels of their own; then messages by each of them.
func branches() api.Past {
	b := &builder{}
	b.put(create(ann))
	b.put(gives(ann, ann, 1), 0)
	b.put(gives(ann, ann, 2), 0, 1)
	b.put(gives(ann, ann, 3), 0, 2)
	b.put(gives(ann, ann, 4), 0, 1)
	b.put(gives(ann, ann, 5), 0, 4)
	b.put(gives(ann, ann, 6), 0)
	b.put(message(ann), 0, 3) // 7
	b.put(message(ann), 0, 2) // 8
	b.put(message(ann), 0, 1) // 9
	b.put(message(ann), 0, 5) // 10
	b.put(message(ann), 0, 6) // 11
	b.put(message(ann), 0)    // 12
	return b.past
}

// TestLine (12.5): a place, and back by the levels that each leans on.
func TestLine(t *testing.T) {
	p := branches()
	for i, want := range map[int]string{
		0: "0", 1: "1", 2: "2 1", 3: "3 2 1", 4: "4 1", 5: "5 4 1", 6: "6",
		7: "7 3 2 1", 8: "8 2 1", 9: "9 1", 10: "10 5 4 1", 11: "11 6", 12: "12",
		-1: "", 13: "", math.MinInt: "", math.MaxInt: "",
	} {
		is(t, "line", Line(p, i), want)
	}
	is(t, "of nothing", Line(api.Past{}, 0), "")
	is(t, "of a room's message", Line(roomOf(), 8), "8 5 2")
}

// TestLineByFirst (12.5): of two levels in a row the first one, whichever it is; what is no levels of a room is passed over.
func TestLineByFirst(t *testing.T) {
	b := &builder{}
	c := b.put(create(ann))
	one, two := b.put(gives(ann, ann, 1), c), b.put(gives(ann, ann, 2), c)
	is(t, "one first", Line(b.past, b.put(message(ann), one, two)), "3 1")
	is(t, "two first", Line(b.past, b.put(message(ann), c, two, one)), "4 2")
	is(t, "one twice", Line(b.past, b.put(message(ann), one, one)), "5 1")
	keyed, loose, other := gives(ann, ann, 1), gives(ann, ann, 1), gives(ann, ann, 1)
	keyed.Key, loose.IsState, other.Type = "x", false, api.TRules
	for _, e := range []api.Event{keyed, loose, other} {
		at := b.put(e, one)
		from := b.put(message(ann), at)
		equal(t, "no levels", Line(b.past, from), []int{from})
		from = b.put(message(ann), at, two)
		equal(t, "no levels, then levels", Line(b.past, from), []int{from, two})
		equal(t, "its own", Line(b.past, at), []int{at, one})
	}
	bad := b.put(levels(ann, `{"ban":"x"}`), two)
	from := b.put(message(ann), bad, one)
	equal(t, "levels that tell none are in the line", Line(b.past, from), []int{from, bad, two})
}

// TestLineIsOfAuthAlone (12.5): what is followed, and who was denied, does not count.
func TestLineIsOfAuthAlone(t *testing.T) {
	p := branches()
	for i := range p.Denied {
		p.Denied[i], p.Prev[i] = true, nil
	}
	is(t, "line", Line(p, 7), "7 3 2 1")
	number(t, "near", Near(p, []int{3, 2, 1}, 8), 1)
}

// TestNear (12.5): lines that meet at the first place, in the midst, at the end, and nowhere.
func TestNear(t *testing.T) {
	p := branches()
	line := Line(p, 3)
	for i, want := range map[int]int{
		3: 0, 7: 0, // the first one
		2: 1, 8: 1, // the midst
		1: 2, 9: 2, 4: 2, 5: 2, 10: 2, // the last one
		0: 3, 6: 3, 11: 3, 12: 3, // nowhere
		-1: 3, 13: 3, math.MinInt: 3, math.MaxInt: 3,
	} {
		number(t, "near", Near(p, line, i), want)
		number(t, "near nothing", Near(p, nil, i), 0)
		number(t, "near an empty line", Near(p, []int{}, i), 0)
	}
	line = Line(p, 7)
	number(t, "a message's line, of itself", Near(p, line, 7), 0)
	number(t, "a message's line, of its levels", Near(p, line, 3), 1)
	number(t, "a line of one place, itself", Near(p, []int{12}, 12), 0)
	number(t, "a line of one place, another one", Near(p, []int{12}, 11), 1)
	number(t, "nothing", Near(api.Past{}, []int{0, 1}, 0), 2)
}

// TestNearOfAnyLine (12.5): a row that is no place's line, in any order, with places that are none, or stand twice.
func TestNearOfAnyLine(t *testing.T) {
	p := branches()
	number(t, "the first of the place's own line counts, not the row's", Near(p, []int{1, 2, 3}, 7), 2)
	number(t, "one further back", Near(p, []int{9, 1, 8}, 7), 1)
	number(t, "twice: the first time", Near(p, []int{6, 2, 5, 2, 2}, 8), 1)
	number(t, "twice, the last place", Near(p, []int{1, 1, 1}, 10), 0)
	number(t, "none", Near(p, []int{-1, 99, math.MinInt, 1}, 9), 3)
	number(t, "none, asked for", Near(p, []int{-1, 99, 13}, -1), 3)
	number(t, "none, asked for behind the end", Near(p, []int{13, 99}, 99), 2)
}

// TestNearByChance (12.5): against the chapter's words; lines of places, and any rows.
func TestNearByChance(t *testing.T) {
	r := rand.New(rand.NewSource(125))
	counts := map[string]int{}
	for range 4000 {
		p := chancePast(r, 1+r.Intn(14))
		n := len(p.Events)
		at := r.Intn(n+2) - 1
		line := Line(p, at)
		equal(t, "line", line, modelLine(p, at))
		if r.Intn(4) == 0 {
			line = chanceSet(r, n)
		}
		for i := -2; i < n+2; i++ {
			near := Near(p, line, i)
			number(t, "near", near, modelNear(p, line, i))
			switch {
			case len(line) == 0:
				counts["empty"]++
			case near == len(line):
				counts["nowhere"]++
			case near == 0:
				counts["first"]++
			default:
				counts["back"]++
			}
		}
		if t.Failed() {
			t.Fatalf("%v of %+v", line, p)
		}
	}
	for _, what := range []string{"empty", "nowhere", "first", "back"} {
		if counts[what] < 500 {
			t.Errorf("%s: %d times", what, counts[what])
		}
	}
}

// TestByLine (12.6): those first that stand farthest back.
func TestByLine(t *testing.T) {
	p := branches()
	for _, l := range []struct {
		set   string
		power int
		want  string
	}{
		{"7 8 9 10 11 12", 3, "11 12 9 10 8 7"},
		{"12 11 10 9 8 7", 3, "11 12 9 10 8 7"},
		{"7 8 9 10 11 12", 5, "11 12 7 8 9 10"},
		{"7 8 9 10 11 12", 6, "7 8 9 10 12 11"},
		{"7 8 9 10 11 12", 0, "7 8 9 10 11 12"},
		{"7 8 9 10 11 12", 7, "11 12 9 10 8 7"},
		{"12 7 10", -1, "7 10 12"},
		{"12 7 10", 13, "7 10 12"},
		{"12 7 10", math.MinInt, "7 10 12"},
		{"12 7 10", math.MaxInt, "7 10 12"},
		{"3 2 1 0", 3, "0 1 2 3"},
		{"7 7 8 7 8", 3, "8 7"},
		{"-1 7 13 8 -9 99", 3, "8 7"},
		{"9", 3, "9"},
		{"", 3, ""},
		{"", -1, ""},
		{"-1 13", 3, ""},
	} {
		is(t, "of "+l.set, ByLine(p, row(t, l.set), l.power), l.want)
	}
	is(t, "any number", ByLine(p, []int{math.MaxInt, 7, math.MinInt, 9}, 3), "9 7")
	is(t, "nothing", ByLine(api.Past{}, nil, 0), "")
	is(t, "none of nothing", ByLine(api.Past{}, []int{0}, 0), "")
}

// TestByLineIsNoChain (12.6): who leans on another one does not stand behind it for that.
func TestByLineIsNoChain(t *testing.T) {
	b := &builder{}
	b.put(create(ann))
	b.add(message(ann), 9, "a", 0)
	b.add(message(ann), 1, "b", 0, 1)
	is(t, "the earlier one first", ByLine(b.past, []int{1, 2}, -1), "2 1")
	is(t, "by power behind it", ByPower(b.past, []int{1, 2}), "1 2")
}

// TestByLineSteps (12.6): the greater Near, then the less Ts, then the less name, then the less place; each step alone, against the next ones; levels do not count.
func TestByLineSteps(t *testing.T) {
	type one struct {
		by   int // levels, the last ones first in the line
		ts   int64
		name string
	}
	for what, l := range map[string]struct{ first, second one }{
		"nowhere":            {one{0, 9, "z"}, one{1, 1, "a"}},
		"near":               {one{1, 9, "z"}, one{2, 1, "a"}},
		"time":               {one{2, 1, "z"}, one{2, 2, "a"}},
		"a time below 0":     {one{2, -2, "z"}, one{2, -1, "a"}},
		"times far apart":    {one{2, math.MinInt64, "z"}, one{2, math.MaxInt64, "a"}},
		"name":               {one{2, 1, "a"}, one{2, 1, "b"}},
		"great letters":      {one{2, 1, "B"}, one{2, 1, "a"}},
		"bytes, not letters": {one{2, 1, "\uffff"}, one{2, 1, "\U00010000"}},
		"no levels":          {one{0, 1, "a"}, one{0, 1, "b"}},
	} {
		for _, turned := range []bool{false, true} {
			b := &builder{}
			b.put(create(ann))
			b.put(gives(ann, ann, 1), 0)
			b.put(gives(ann, bob, 100), 0, 1)
			both := []one{l.first, l.second}
			if turned {
				slices.Reverse(both)
			}
			for i, o := range both {
				b.add(message(users()[i]), o.ts, o.name, o.by)
			}
			want := "3 4"
			if turned {
				want = "4 3"
			}
			is(t, what, ByLine(b.past, []int{3, 4}, 2), want)
			is(t, what+", told the other way round", ByLine(b.past, []int{4, 3}, 2), want)
		}
	}
	b := &builder{}
	for range 30 {
		b.add(message(ann), 7, "$same")
	}
	set := rand.New(rand.NewSource(1)).Perm(30)
	want := slices.Sorted(slices.Values(set))
	equal(t, "all the same but for one, whose line it is", ByLine(b.past, set, 0), append(slices.Clone(want[1:]), 0))
	equal(t, "all the same, without a line", ByLine(b.past, set, -1), want)
}

// TestByLineByChance (12.6): against the chapter's words.
func TestByLineByChance(t *testing.T) {
	r := rand.New(rand.NewSource(126))
	ranked := 0
	for range 5000 {
		p := chancePast(r, r.Intn(15))
		n := len(p.Events)
		set, by := chanceSet(r, n), r.Intn(n+4)-2
		got := ByLine(p, set, by)
		equal(t, "told", got, modelByLine(p, set, by))
		if t.Failed() {
			t.Fatalf("%v by %d of %+v", set, by, p)
		}
		if len(Line(p, by)) > 1 && len(got) > 1 && Near(p, Line(p, by), got[0]) > Near(p, Line(p, by), got[len(got)-1]) {
			ranked++
		}
	}
	if ranked < 500 {
		t.Error("too few that are ranked by a line:", ranked)
	}
}
