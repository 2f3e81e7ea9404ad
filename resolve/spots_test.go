package resolve

import (
	"math/rand"
	"slices"
	"strconv"
	"strings"
	"testing"

	"agora/api"
)

// spots reads a state: a type, a / and a key, if there is one, a : and a place; blanks between.
func spots(t *testing.T, text string) []api.Spot {
	t.Helper()
	var s []api.Spot
	for _, word := range strings.Fields(text) {
		at := strings.LastIndex(word, ":")
		i, err := strconv.Atoi(word[at+1:])
		if err != nil {
			t.Fatal(err)
		}
		kind, key, _ := strings.Cut(word[:at], "/")
		s = append(s, api.Spot{Type: kind, Key: key, At: i})
	}
	return s
}

// several reads states, with | between.
func several(t *testing.T, text string) [][]api.Spot {
	t.Helper()
	var l [][]api.Spot
	for _, s := range strings.Split(text, "|") {
		l = append(l, spots(t, s))
	}
	return l
}

// TestSettledAndContested (13.1).
func TestSettledAndContested(t *testing.T) {
	for _, c := range []struct{ states, settled, contested string }{
		// One state.
		{"", "", ""},
		{"a:0", "a:0", ""},
		{"a:3 b:1 c/x:0", "a:3 b:1 c/x:0", ""},
		// States that are the same.
		{"a:0|a:0", "a:0", ""},
		{"a:7 b:2|a:7 b:2|a:7 b:2", "a:7 b:2", ""},
		{"|", "", ""},
		// A type and key whose places are unlike.
		{"a:0|a:1", "", "0 1"},
		{"a:1|a:0", "", "0 1"},
		{"a:0 b:2|a:1 b:2", "b:2", "0 1"},
		{"a:5|a:3|a:4", "", "3 4 5"},
		{"a:5|a:3|a:5", "", "3 5"},
		// What one state has and another one has not.
		{"a:0|", "", "0"},
		{"|a:0", "", "0"},
		{"a:0 b:1|a:0", "a:0", "1"},
		{"b:1|a:0 b:1", "b:1", "0"},
		{"a:0|b:1", "", "0 1"},
		{"b:0|a:1", "", "0 1"},
		// A spot that stands in all but one.
		{"a:0 b:1|a:0 b:1|b:1", "b:1", "0"},
		{"a:0 b:1|a:2 b:1|a:0 b:1", "b:1", "0 2"},
		{"b:1|a:0 b:1|a:0 b:1", "b:1", "0"},
		// An empty state among others.
		{"a:0 b:1||a:0 b:1", "", "0 1"},
		{"|a:0 b:1|a:0 b:1", "", "0 1"},
		{"a:0 b:1|a:0 b:1|", "", "0 1"},
		{"a:0||a:1", "", "0 1"},
		// Types and keys count both.
		{"a/x:0 a/y:1|a/x:0 a/y:2", "a/x:0", "1 2"},
		{"a/x:0 b/x:1|a/x:2 b/x:1", "b/x:1", "0 2"},
		{"a:0 a/x:1|a:0", "a:0", "1"},
		{"a:0|a/x:1", "", "0 1"},
		{"ab/c:0|a/bc:1", "", "0 1"},
		{"a/bc:1 ab/c:0|a/bc:1 ab/c:2", "a/bc:1", "0 2"},
		// In order: types first, byte by byte.
		{"A:4 B:3 a:2 aa:1 b:0|A:4 B:3 a:2 aa:1 b:0", "A:4 B:3 a:2 aa:1 b:0", ""},
		{"a/z:1 b/a:0|a/z:1 b/a:0", "a/z:1 b/a:0", ""},
		{"a:3 a/A:2 a/a:1 a/aa:0|a:3 a/A:2 a/a:1 a/aa:0", "a:3 a/A:2 a/a:1 a/aa:0", ""},
		{"a:10 b:9 c:100|", "", "9 10 100"},
		{"a:10 b:9 c:100|a:8 b:7 c:99", "", "7 8 9 10 99 100"},
		{"a:9223372036854775807|a:0", "", "0 9223372036854775807"},
		{"a:1 b:2 c:3 d:4|a:1 b:5 c:3|a:1 b:2 c:6 d:4", "a:1", "2 3 4 5 6"},
	} {
		l := several(t, c.states)
		equal(t, "settled of "+c.states, Settled(l), spots(t, c.settled))
		is(t, "contested of "+c.states, Contested(l), c.contested)
		slices.Reverse(l)
		equal(t, "settled, the last one first, of "+c.states, Settled(l), spots(t, c.settled))
		is(t, "contested, the last one first, of "+c.states, Contested(l), c.contested)
	}
}

// TestBytesNotLetters (13.1): bytes that are no letters stand where they belong.
func TestBytesNotLetters(t *testing.T) {
	s := []api.Spot{{Type: "", At: 5}, {Type: "\uffff", At: 4}, {Type: "\U00010000", At: 3}, {Type: "\xff", Key: "", At: 2}, {Type: "\xff", Key: "\x00", At: 1}, {Type: "\xff", Key: "\xff", At: 0}}
	equal(t, "settled", Settled([][]api.Spot{s, s}), s)
	is(t, "contested", Contested([][]api.Spot{s, nil}), "0 1 2 3 4 5")
	slices.Reverse(s)
	equal(t, "not in order", Settled([][]api.Spot{s, s}), nil)
}

// TestNoStates (13.1): nothing without states.
func TestNoStates(t *testing.T) {
	for _, l := range [][][]api.Spot{nil, {}, {nil}, {{}}, {nil, {}, nil}} {
		equal(t, "settled", Settled(l), nil)
		equal(t, "contested", Contested(l), nil)
	}
}

// TestNothingOfWhatIsNotRight (13.1): states that are right in no past, first, last, alone, and among right ones.
func TestNothingOfWhatIsNotRight(t *testing.T) {
	for _, wrong := range []string{
		"b:0 a:1", "a:0 a:1", "a:0 a:0", "a/y:0 a/x:1", "a/x:0 a:1", "a/x:0 a/x:1", "a:0 c:1 b:2", "a:0 b:1 a:2",
		"b/a:0 a/b:1", "aa:0 a:1", "a:0 B:1", "b:0 aa:1", "a:-1", "a:0 b:-1", "a:-9223372036854775808 b:0",
		"a:0 b:0", "a:0 a/x:0", "a:7 b:1 c/x:7",
	} {
		for _, text := range []string{wrong, wrong + "|" + wrong, "z:9|" + wrong, wrong + "|z:9", "|" + wrong, wrong + "|", "z:9|" + wrong + "|z:9", "z:9|z:9|" + wrong} {
			equal(t, "settled of "+text, Settled(several(t, text)), nil)
			equal(t, "contested of "+text, Contested(several(t, text)), nil)
		}
	}
	// Each of them may be right, but no place has two types or keys.
	for _, text := range []string{"a:0|b:0", "a:0|a/x:0", "a:0 b:1|a:0 c:1", "a:0 z:9|z:9|b:0 z:9", "a:1 b:2|a:2 b:1"} {
		equal(t, "settled of "+text, Settled(several(t, text)), nil)
		equal(t, "contested of "+text, Contested(several(t, text)), nil)
	}
}

// TestSpotsOfRoom (13.1): branches of a room.
func TestSpotsOfRoom(t *testing.T) {
	p := roomOf()
	for _, c := range []struct{ states, settled, contested string }{
		{"0 1 2 3 4 6|0 1 2 3 4 5 7", "0 1 2 3 4", "5 6 7"},
		{"0 1 2 3 4 5 7|0 1 2 3 4 5 8", "0 1 2 3 4 5", "7 8"},
		{"0 1 2 3 4 5|0 1 9 3 4 5|0 1 2 11 4 5", "0 1 4 5", "2 3 9 11"},
		{"0 1 2 3 4 5|0 1 2 3 4 5|", "", "0 1 2 3 4 5"},
	} {
		l := states(t, p, c.states)
		equal(t, "settled of "+c.states, Settled(l), state(t, p, c.settled))
		is(t, "contested of "+c.states, Contested(l), c.contested)
	}
}

// TestSpotsByChance (13.1): as the chapter's words gone through one by one.
func TestSpotsByChance(t *testing.T) {
	r := rand.New(rand.NewSource(131))
	both := 0
	for range 3000 {
		// Each place has one type and key, as in a past.
		all := make([]api.Spot, 12)
		for i := range all {
			all[i] = api.Spot{Type: pick(r, "a", "b", "ab"), Key: pick(r, "", "a", "b"), At: i}
		}
		l := make([][]api.Spot, r.Intn(5))
		base := r.Perm(12)
		for k := range l {
			if r.Intn(2) == 0 {
				base = slices.Concat(base[6:], base[:6])
			}
			for _, i := range base[:r.Intn(13)] {
				if modelSlot(l[k], all[i].Type, all[i].Key) < 0 {
					l[k] = append(l[k], all[i])
				}
			}
			l[k] = ordered(l[k])
		}
		settled, contested := Settled(l), Contested(l)
		equal(t, "settled", settled, modelSettled(l))
		equal(t, "contested", contested, modelContested(l))
		if t.Failed() {
			t.Fatalf("%+v", l)
		}
		if len(l) > 1 && len(settled) > 0 && len(contested) > 0 {
			both++
		}
	}
	if both < 300 {
		t.Error("too few that have both:", both)
	}
}
