package auth

import (
	"fmt"
	"math/rand"
	"slices"
	"testing"

	"agora/api"
	"agora/redact"
)

// TestAgainstModel (11.2): any event by any state, held against the chapter's words, each of which says something often enough.
func TestAgainstModel(t *testing.T) {
	r := rand.New(rand.NewSource(112))
	counts := map[string]int{}
	for range 30000 {
		e, state := chance(t, r)
		want, by := modelJudge(e, state)
		if got := Judge(e, state); (got == api.OK) != want || got != api.OK && got != api.ErrDenied {
			t.Fatalf("error %d, not %t by rule %s: %s, %+v", got, want, by, short(e), state)
		}
		counts[fmt.Sprint(by, " ", want)]++
	}
	for _, by := range []string{
		"1 true", "1 false", "2 create false", "2 levels false", "3 key false", "3 nothing false",
		"3 join of another one false", "3 join of the creator true", "3 join, banned false", "3 join, let in true", "3 join by the rule true", "3 join by the rule false",
		"3 invite true", "3 invite false", "3 leave true", "3 leave false", "3 kick, not joined false", "3 kick, banned false", "3 kick true", "3 kick false",
		"3 ban true", "3 ban false", "4 false", "5 false", "6 false", "7 no levels false", "7 first levels true", "7 levels true", "7 levels false", "8 true",
	} {
		if counts[by] < 10 {
			t.Errorf("%s: %d times", by, counts[by])
		}
		delete(counts, by)
	}
	if len(counts) > 0 {
		t.Error("others:", counts)
	}
}

// TestWantedAlone (11.3): a state of those alone that Wanted names gives the same answer, and so does one whose others are any.
func TestWantedAlone(t *testing.T) {
	r := rand.New(rand.NewSource(1131))
	counts := map[api.Errno]int{}
	for range 10000 {
		e, state := chance(t, r)
		wanted := Wanted(e)
		names := func(k api.Known) bool {
			return k.Event.IsState && slices.Contains(wanted, api.Entry{Type: k.Event.Type, Key: k.Event.Key})
		}
		want := Judge(e, state)
		var alone, firsts, others []api.Known
		stood := map[spot]bool{}
		for _, k := range state {
			if !names(k) {
				k.Event.Content = chanceContent(r, k.Event.Type)
				k.Event.Sender = pick(r, users()...)
				others = append(others, k)
				continue
			}
			alone = append(alone, k)
			if at := (spot{k.Event.Type, k.Event.Key}); !stood[at] {
				stood[at] = true
				firsts = append(firsts, k)
			}
		}
		judged(t, "those alone", e, alone, want)
		judged(t, "the first ones alone", e, firsts, want)
		slices.Reverse(firsts)
		judged(t, "those in the opposite order", e, firsts, want)
		judged(t, "with others ahead", e, slices.Concat(others, alone), want)
		judged(t, "with others behind", e, slices.Concat(alone, others), want)
		if t.Failed() {
			return
		}
		counts[want]++
	}
	if counts[api.OK] < 1500 || counts[api.ErrDenied] < 1500 {
		t.Error("too few:", counts)
	}
}

// TestEachWantedCounts (11.1, 11.3): each that Wanted names is asked for by some event.
func TestEachWantedCounts(t *testing.T) {
	r := rand.New(rand.NewSource(1132))
	counts := map[string]int{}
	for range 10000 {
		e, state := chance(t, r)
		want := Judge(e, state)
		for at, entry := range Wanted(e) {
			without := slices.DeleteFunc(slices.Clone(state), func(k api.Known) bool {
				return k.Event.Type == entry.Type && k.Event.Key == entry.Key
			})
			if Judge(e, without) != want {
				counts[fmt.Sprint(entry.Type, " ", at)]++
			}
		}
	}
	for _, what := range []string{api.TCreate + " 0", api.TPower + " 1", api.TMember + " 2", api.TMember + " 3", api.TRules + " 3"} {
		if counts[what] < 10 {
			t.Errorf("%s: %d times", what, counts[what])
		}
	}
}

// TestRedactionChangesNothing (11.3): of an event, of a state, of both.
func TestRedactionChangesNothing(t *testing.T) {
	r := rand.New(rand.NewSource(1133))
	counts := map[api.Errno]int{}
	for range 5000 {
		e, state := chance(t, r)
		want := Judge(e, state)
		var hidden []api.Known
		for _, k := range state {
			if !k.Event.IsState {
				// A key that is not of a state is no event's.
				k.Event.Key = ""
			}
			hidden = append(hidden, api.Known{Name: k.Name, Event: redact.Redact(k.Event)})
		}
		judged(t, "the event", redact.Redact(e), state, want)
		judged(t, "the state", e, hidden, want)
		judged(t, "both", redact.Redact(e), hidden, want)
		if !slices.Equal(Wanted(redact.Redact(e)), Wanted(e)) {
			t.Errorf("%+v, not %+v: %s", Wanted(redact.Redact(e)), Wanted(e), short(e))
		}
		if t.Failed() {
			return
		}
		counts[want]++
	}
	if counts[api.OK] < 750 || counts[api.ErrDenied] < 750 {
		t.Error("too few:", counts)
	}
	judged(t, "nothing is left of what is no event", redact.Redact(api.Event{}), opened(), api.ErrShape)
}

// TestWhoIsNotJoined (11.3): does nothing but join, or leave, themselves; who is banned does not even join, nor leave.
func TestWhoIsNotJoined(t *testing.T) {
	r := rand.New(rand.NewSource(1134))
	counts := map[string]int{}
	for range 15000 {
		e, state := chance(t, r)
		if e.Type == api.TMember && r.Intn(4) > 0 {
			e.IsState, e.Key = true, e.Sender
		}
		for i := range state {
			if k := &state[i].Event; k.Type == api.TMember && k.Key == e.Sender {
				k.Content = table([]string{"membership"}, word(pick(r, "invite", "leave", "ban", "knock", "")))
			}
		}
		m := modelOf(state)
		was := m.text(api.TMember, e.Sender, "membership")
		if e.Type == api.TCreate || Judge(e, state) != api.OK {
			continue
		}
		does := goText(e.Content, "membership")
		if e.Type != api.TMember || !e.IsState || e.Key != e.Sender || does != "join" && does != "leave" {
			t.Fatalf("%q does %s", was, short(e))
		}
		counts[does]++
		// Who made a room joins behind its create event, whatever a state says that is none of that place.
		first := e.Sender == m[spot{api.TCreate, ""}].Event.Sender && len(e.Prev) == 1
		if was == "ban" && !first {
			t.Fatalf("who is banned does %s", short(e))
		}
	}
	if counts["join"] < 50 || counts["leave"] < 50 {
		t.Error("too few:", counts)
	}
}
