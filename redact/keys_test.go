package redact

import (
	"slices"
	"strings"
	"testing"

	"agora/api"
	"agora/ident"
)

// keepers are the types that keep keys, with these, by the chapter.
func keepers() map[string][]string {
	return map[string][]string{
		"m.room.create":       {"creator"},
		"m.room.member":       {"membership"},
		"m.room.power_levels": {"ban", "events", "events_default", "invite", "kick", "redact", "state_default", "users", "users_default"},
		"m.room.join_rules":   {"join_rule"},
	}
}

// others are types that keep none, those that are nearly others among them, and texts that are no types.
func others() []string {
	l := []string{
		api.TMessage, api.TName, api.TRedact, api.TDummy, "m.room.topic", "m.room.history_visibility", "m.room.server_acl",
		"m.reaction", "m", "a", "create", "m.create", "power", "m.room", "m.room.", "room.create", "M.ROOM.CREATE", "",
		" ", "\x00", "\xff", "creator", "membership", "join_rule", "users", strings.Repeat("a", api.MaxType), strings.Repeat("m", 100000),
	}
	for kind := range keepers() {
		l = append(l, kind+"s", kind[:len(kind)-1], "x"+kind, kind[1:], kind+" ", strings.ToUpper(kind), strings.ReplaceAll(kind, ".", "_"), kind+"\x00", kind+"."+kind)
	}
	return l
}

// TestKeys (6.1): of each type.
func TestKeys(t *testing.T) {
	for kind, want := range keepers() {
		if got := Keys(kind); !slices.Equal(got, want) {
			t.Errorf("%s: %q, not %q", kind, got, want)
		}
		if got := Keys(kind); !slices.IsSorted(got) || len(slices.Compact(got)) != len(want) {
			t.Errorf("%s: not in order: %q", kind, got)
		}
	}
	for _, kind := range others() {
		if got := Keys(kind); len(got) > 0 {
			t.Errorf("%.80q keeps %q", kind, got)
		}
	}
}

// TestKeysByName (6.1): api's names are those types.
func TestKeysByName(t *testing.T) {
	for kind, n := range map[string]int{api.TCreate: 1, api.TMember: 1, api.TPower: 9, api.TRules: 1, api.TMessage: 0, api.TName: 0, api.TRedact: 0, api.TDummy: 0} {
		if got := Keys(kind); len(got) != n {
			t.Errorf("%s: %q", kind, got)
		}
	}
}

// TestOneLetterOff (6.1): a type that differs in one letter keeps nothing.
func TestOneLetterOff(t *testing.T) {
	tried := 0
	for kind := range keepers() {
		for at := range kind {
			for c := range 256 {
				other := kind[:at] + string([]byte{byte(c)}) + kind[at+1:]
				if other == kind {
					continue
				}
				if got := Keys(other); len(got) > 0 {
					t.Errorf("%q keeps %q", other, got)
				}
				if ident.Type(other) {
					tried++
					left(t, other, message(other, table([]string{"creator", "membership", "join_rule", "ban"}, text("a"), text("b"), text("c"), number(1))), `{}`)
				}
			}
		}
	}
	if tried < 1000 {
		t.Error("too few types:", tried)
	}
}
