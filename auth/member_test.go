package auth

import (
	"fmt"
	"slices"
	"strings"
	"testing"

	"agora/api"
)

// memberships are all that a state may say of a user; the last one is that it says nothing.
func memberships() []string {
	return []string{"join", "invite", "leave", "ban", "knock", "Join", ""}
}

// ranked tells a state's levels: what three things ask for, and what the sender and the target have.
func ranked(ban, kick, invite int64, sender string, s int64, target string, t int64) api.Event {
	return levels(fmt.Sprintf(`{"ban":%d,"kick":%d,"invite":%d,"users":{%q:%d,%q:%d}}`, ban, kick, invite, sender, s, target, t))
}

// TestMemberForm (11.2, rule 3): a membership is of a state, and its key a user.
func TestMemberForm(t *testing.T) {
	state := opened(is(ann, "join"), is(bob, "invite"), rule("public"))
	for _, m := range []string{"join", "invite", "leave", "ban"} {
		e := plain(api.TMember, ann, `{"membership":"`+m+`"}`)
		denied(t, "not of a state", e, state)
		for _, key := range []string{"", "x", "ann", "@", "@ann", "@:s1", "@Ann:s1", "!r:s1", " @ann:s1", "@ann:s1 ", "@ann:s_1", "@" + strings.Repeat("a", 33) + ":s1"} {
			denied(t, "a key that is no user", member(ann, key, m), state)
			denied(t, "one who has a membership", member(ann, key, m), append(slices.Clone(state), stateOf(is(key, "join"))...))
		}
	}
	// A level that is asked for by its type counts nothing here.
	state = opened(is(ann, "join"), levels(`{"events":{"m.room.member":100},"state_default":100}`))
	allowed(t, "an invitation", member(ann, bob, "invite"), state)
	allowed(t, "a leave", member(ann, ann, "leave"), state)
}

// TestMemberNothing (11.2, rule 3): a membership that is none of the four, or no text, is not allowed.
func TestMemberNothing(t *testing.T) {
	for _, content := range []string{`{}`, `{"membership":""}`, `{"membership":"knock"}`, `{"membership":"Join"}`, `{"membership":"joined"}`, `{"membership":"join "}`,
		`{"membership":null}`, `{"membership":1}`, `{"membership":true}`, `{"membership":["join"]}`, `{"membership":{"membership":"join"}}`, `{"Membership":"join"}`, `{"x":"join"}`} {
		state := opened(is(ann, "join"), is(bob, "join"), rule("public"))
		denied(t, content, of(api.TMember, ann, ann, content), state)
		denied(t, content, of(api.TMember, bob, ann, content), state)
		denied(t, content, with(of(api.TMember, ann, ann, content), follows(name(1))), opened())
	}
	e := with(is(bob, ""), func(e *api.Event) {
		e.Content = table([]string{"reason", "membership", "a"}, word("leave"), word("join"), word("x"))
	})
	allowed(t, "among other keys", e, opened(is(bob, "invite")))
}

// TestJoinOfCreator (11.2, rule 3): who made the room joins behind the create event alone, whatever the state says.
func TestJoinOfCreator(t *testing.T) {
	join := member(ann, ann, "join")
	states := [][]api.Known{opened(), opened(rule("invite")), opened(is(ann, "leave")), opened(is(ann, "ban")), opened(levels(`{"users":{}}`))}
	for _, state := range states {
		allowed(t, "behind the create event", with(join, follows(name(1))), state)
		for _, prev := range [][]string{nil, {name(2)}, {name(1), name(2)}, {name(2), name(1)}, {name(99)}} {
			denied(t, "behind others", with(join, follows(prev...)), state)
		}
		for _, user := range []string{bob, dan} {
			denied(t, "another user", with(member(user, user, "join"), follows(name(1))), state)
		}
		denied(t, "for another user", with(member(ann, bob, "join"), follows(name(1))), state)
		denied(t, "by another user", with(member(bob, ann, "join"), follows(name(1))), state)
	}
	// Who made it is the create event's sender, not whom its content names.
	odd := with(create(), func(e *api.Event) { e.Content = value(`{"creator":"` + dan + `"}`) })
	allowed(t, "its sender", with(join, follows(name(1))), stateOf(odd))
	denied(t, "whom it names", with(is(dan, "join"), follows(name(1))), stateOf(odd))
	// The create event's own name counts, wherever it stands.
	state := stateOf(is(bob, "join"), create())
	allowed(t, "the second one", with(join, follows(name(2))), state)
	denied(t, "the first one", with(join, follows(name(1))), state)
	denied(t, "without a name", join, []api.Known{{Event: create()}})
}

// TestJoins (11.2, rule 3): all other joins, by one's own membership and the rule.
func TestJoins(t *testing.T) {
	for _, was := range memberships() {
		for _, r := range []string{"public", "invite", "private", "Public", ""} {
			for _, prev := range [][]string{nil, {name(1)}, {name(1), name(2)}} {
				state := opened(is(bob, was), rule(r), is(ann, "join"))
				want := was == "join" || was == "invite" || r == "public" && was != "ban"
				either(t, was+" "+r, with(is(bob, "join"), follows(prev...)), state, want)
				denied(t, "another one's join", with(member(ann, bob, "join"), follows(prev...)), state)
				denied(t, "another one's join", with(member(bob, cat, "join"), follows(prev...)), state)
			}
		}
	}
	denied(t, "nothing told", is(bob, "join"), opened())
	allowed(t, "public", is(bob, "join"), opened(rule("public")))
	denied(t, "public by another key", is(bob, "join"), opened(of(api.TRules, "x", ann, `{"join_rule":"public"}`)))
	denied(t, "public by another type", is(bob, "join"), opened(of(api.TName, "", ann, `{"join_rule":"public"}`)))
	denied(t, "public, but not of a state", is(bob, "join"), opened(plain(api.TRules, ann, `{"join_rule":"public"}`)))
	for _, content := range []string{`{}`, `{"join_rule":true}`, `{"join_rule":["public"]}`, `{"join_rule":{"join_rule":"public"}}`, `{"rule":"public"}`, `{"public":"join_rule"}`} {
		denied(t, content, is(bob, "join"), opened(of(api.TRules, "", ann, content)))
	}
	// No level is needed.
	allowed(t, "at the lowest level", is(bob, "join"), opened(rule("public"), levels(`{"users_default":-100,"invite":100,"state_default":100}`)))
	denied(t, "at the highest level", is(bob, "join"), opened(levels(`{"users":{"`+bob+`":1000}}`)))
}

// TestInvites (11.2, rule 3): by both memberships, and a level one below, at and above what is asked for.
func TestInvites(t *testing.T) {
	for _, sender := range memberships() {
		for _, target := range memberships() {
			for s := int64(29); s <= 31; s++ {
				for _, other := range []int64{s - 1, s, s + 1} {
					state := opened(is(bob, sender), is(cat, target), ranked(50, 50, 30, bob, s, cat, other), rule("public"))
					want := sender == "join" && target != "join" && target != "ban" && s >= 30
					either(t, fmt.Sprint(sender, " ", target, " ", s), member(bob, cat, "invite"), state, want)
				}
			}
		}
	}
	for _, was := range memberships() {
		denied(t, "of oneself", member(bob, bob, "invite"), opened(is(bob, was), rule("public")))
	}
	allowed(t, "where no levels are told", member(bob, cat, "invite"), opened(is(bob, "join")))
	denied(t, "by one who is nobody", member(bob, cat, "invite"), opened(is(ann, "join")))
}

// TestLeaves (11.2, rule 3): one's own.
func TestLeaves(t *testing.T) {
	for _, was := range memberships() {
		for _, told := range []string{`{}`, `{"users_default":-100,"kick":100,"ban":100}`, `{"users":{"` + bob + `":1000}}`} {
			want := was == "join" || was == "invite"
			either(t, was, is(bob, "leave"), opened(is(bob, was), levels(told)), want)
		}
		either(t, was, is(bob, "leave"), opened(is(bob, was)), was == "join" || was == "invite")
	}
	denied(t, "nobody", is(bob, "leave"), opened(is(ann, "join")))
}

// TestKicks (11.2, rule 3): another one's leave: both memberships, levels about what is asked for, and about the target's.
func TestKicks(t *testing.T) {
	for _, sender := range memberships() {
		for _, target := range memberships() {
			for s := int64(39); s <= 61; s++ {
				if s > 41 && s < 59 {
					continue
				}
				for _, other := range []int64{-100, s - 1, s, s + 1} {
					state := opened(is(bob, sender), is(cat, target), ranked(60, 40, 0, bob, s, cat, other), rule("public"))
					want := sender == "join" && (target != "ban" || s >= 60) && s >= 40 && s > other
					either(t, fmt.Sprint(sender, " ", target, " ", s, " ", other), member(bob, cat, "leave"), state, want)
					// Where less is needed to ban than to throw out, both count.
					state = opened(is(bob, sender), is(cat, target), ranked(40, 60, 0, bob, s, cat, other))
					want = sender == "join" && s >= 60 && s > other
					either(t, fmt.Sprint(sender, " ", target, " ", s, " ", other), member(bob, cat, "leave"), state, want)
				}
			}
		}
	}
	allowed(t, "where no levels are told", member(ann, bob, "leave"), opened(is(ann, "join"), is(bob, "join")))
	denied(t, "where no levels are told", member(bob, ann, "leave"), opened(is(ann, "join"), is(bob, "join")))
}

// TestBans (11.2, rule 3): both memberships, levels about what is asked for, and about the target's.
func TestBans(t *testing.T) {
	for _, sender := range memberships() {
		for _, target := range memberships() {
			for s := int64(69); s <= 71; s++ {
				for _, other := range []int64{-100, s - 1, s, s + 1} {
					state := opened(is(bob, sender), is(cat, target), ranked(70, 0, 0, bob, s, cat, other), rule("public"))
					want := sender == "join" && s >= 70 && s > other
					either(t, fmt.Sprint(sender, " ", target, " ", s, " ", other), member(bob, cat, "ban"), state, want)
				}
			}
		}
		denied(t, "of oneself", member(bob, bob, "ban"), opened(is(bob, sender), levels(`{"users":{"`+bob+`":100}}`)))
	}
	allowed(t, "where no levels are told", member(ann, bob, "ban"), opened(is(ann, "join")))
	denied(t, "where no levels are told", member(bob, cat, "ban"), opened(is(bob, "join")))
}

// TestLevelsOfMembers (11.2): levels that tell nothing of a user are those of all users; without any, those that hold at the start.
func TestLevelsOfMembers(t *testing.T) {
	both := []api.Event{is(ann, "join"), is(bob, "join"), is(cat, "join")}
	state := func(content string) []api.Known { return opened(append(both, levels(content))...) }
	allowed(t, "the sender's of all users", member(bob, cat, "ban"), state(`{"users_default":50,"users":{"`+cat+`":49}}`))
	denied(t, "the sender's of all users", member(bob, cat, "ban"), state(`{"users_default":49,"users":{"`+cat+`":0}}`))
	denied(t, "both of all users", member(bob, cat, "ban"), state(`{"users_default":50}`))
	allowed(t, "the target's of all users", member(bob, cat, "leave"), state(`{"users":{"`+bob+`":51},"users_default":50}`))
	denied(t, "the target's of all users", member(bob, cat, "leave"), state(`{"users":{"`+bob+`":51},"users_default":51}`))
	denied(t, "the creator has no more than others, once levels are told", member(ann, bob, "leave"), state(`{}`))
	allowed(t, "but has, till then", member(ann, bob, "leave"), opened(both...))
	denied(t, "whom the create event names has nothing of it", member(ann, bob, "leave"), stateOf(append([]api.Event{with(create(), func(e *api.Event) { e.Sender = dan })}, both...)...))
	allowed(t, "its sender has", member(dan, bob, "leave"), stateOf(append([]api.Event{with(create(), func(e *api.Event) { e.Sender = dan }), is(dan, "join")}, both...)...))
}
