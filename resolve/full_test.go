package resolve

import (
	"math/rand"
	"testing"

	"agora/api"
)

// TestFull (13.2): branches of a room: what is contested, and what some lean on and others do not.
func TestFull(t *testing.T) {
	p := roomOf()
	for text, want := range map[string]string{
		"0 1 2 3 4 5":             "", // one state
		"0 1 2 3 4 5|0 1 2 3 4 5": "", // the same
		// 6 and 7 lean on 5, and so do both states; it is contested itself.
		"0 1 2 3 4 6|0 1 2 3 4 5 7": "5 6 7",
		// 7 leans on cat's join, 8 on bob's: each of these chains is one state's alone, though both joins are settled.
		"0 1 2 3 4 5 7|0 1 2 3 4 5 8": "4 5 7 8",
		// Nothing is contested but 9, and nothing is leant on but by both.
		"0 1 2 3 4 5|0 1 9 3 4 5": "2 9",
		// 11 leans on bob's join, and on nothing else that is not leant on by all.
		"0 1 2 3 4 5|0 1 2 11 4 5": "3 4 11",
		// An empty state has no chain: all others' are apart.
		"0 1 2 3 4 5|":         "0 1 2 3 4 5",
		"|0 1":                 "0 1",
		"8|":                   "0 1 2 3 4 8",
		"8||8":                 "0 1 2 3 4 8",
		"0|":                   "0",
		"|":                    "",
		"":                     "",
		"8|8":                  "",
		"7|8":                  "4 5 7 8",
		"8|0 1 2 3 4 8":        "0 1 2 3 4",
		"0 1 2 3 4 5 7|0":      "0 1 2 3 4 5 7", // 0 is settled, but leant on by one alone
		"6|7|8":                "4 5 6 7 8",
		"0 1|0 1 2|0 1 2 4 11": "1 2 3 4 11", // all lean on 0; 3 is no state's own
	} {
		is(t, "of "+text, Full(p, states(t, p, text)), want)
	}
	equal(t, "no states", Full(p, nil), nil)
	equal(t, "nothing of nothing", Full(api.Past{}, nil), nil)
	equal(t, "nothing of nothing, told", Full(api.Past{}, [][]api.Spot{nil, nil}), nil)
}

// TestFullByChains (13.2): a chain leads by any way, over events that are of no state, and over denied ones.
func TestFullByChains(t *testing.T) {
	b := &builder{}
	b.put(create(ann))
	far := b.put(of("x", "far", ann, `{}`))
	between := b.put(message(ann), far)
	denied := b.put(of("x", "denied", ann, `{}`), between)
	b.past.Denied[denied] = true
	one := b.put(title(ann, "one"), denied, 0)
	other := b.put(title(ann, "other"), 0)
	p := b.past
	is(t, "apart", Full(p, [][]api.Spot{stateOf(p, one), stateOf(p, other)}), "1 2 3 4 5")
	is(t, "the same the other way round", Full(p, [][]api.Spot{stateOf(p, other), stateOf(p, one)}), "1 2 3 4 5")
	// Who leans on it by another way has it in the chain, too.
	p.Auth[other] = []int{between, 0}
	is(t, "in common", Full(p, [][]api.Spot{stateOf(p, one), stateOf(p, other)}), "3 4 5")
	is(t, "all but one", Full(p, [][]api.Spot{stateOf(p, one), stateOf(p, other), stateOf(p, far)}), "0 1 2 3 4 5")
	// A place is not in its own chain.
	is(t, "its own", Full(p, [][]api.Spot{stateOf(p, far), stateOf(p, far, one)}), "0 1 2 3 4")
	// Prev is no chain.
	p.Prev[other] = []int{1, 2, 3}
	is(t, "what is followed", Full(p, [][]api.Spot{stateOf(p, far, one), stateOf(p, far, other)}), "3 4 5")
}

// TestFullOfWhatIsNotRight (13.2): nothing.
func TestFullOfWhatIsNotRight(t *testing.T) {
	p := roomOf()
	good, other := stateOf(p, 0, 1, 2, 3, 4, 8), stateOf(p, 0, 1, 2, 3, 5)
	if len(Full(p, [][]api.Spot{good, other})) == 0 {
		t.Fatal("nothing of what is right")
	}
	for what, q := range wrongPasts() {
		equal(t, what, Full(q, [][]api.Spot{good, other}), nil)
		equal(t, what+", one place", Full(q, [][]api.Spot{stateOf(p, 0), nil}), nil)
		equal(t, what+", empty states", Full(q, [][]api.Spot{nil, nil}), nil)
		equal(t, what+", no states", Full(q, nil), nil)
	}
	for what, s := range wrongStates() {
		for _, l := range [][][]api.Spot{{s}, {s, s}, {s, good}, {good, s}, {good, other, s}, {s, nil}, {nil, s}, {good, s, other}} {
			equal(t, what, Full(p, l), nil)
		}
	}
}

// TestFullByChance (13.2): as the chapter's words gone through one by one.
func TestFullByChance(t *testing.T) {
	r := rand.New(rand.NewSource(132))
	more := 0
	for range 2000 {
		p, branches := chanceRoom(r, r.Intn(25))
		l := chanceStates(r, p, branches)
		got := Full(p, l)
		equal(t, "full", got, modelFull(p, l))
		if t.Failed() {
			t.Fatalf("%+v of %+v", l, p)
		}
		if len(got) > len(Contested(l)) {
			more++
		}
	}
	if more < 500 {
		t.Error("too few that have more than what is contested:", more)
	}
}
