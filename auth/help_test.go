package auth

import (
	"encoding/base64"
	"encoding/binary"
	"encoding/json"
	"fmt"
	"math/rand"
	"slices"
	"strings"
	"testing"

	"agora/api"
	"agora/canon"
	"agora/event"
	"agora/power"
)

// The room of these tests, and its users. Ann made it: where no levels are told she has 100, and all others 0.
const (
	here = "!r:s1"
	ann  = "@ann:s1"
	bob  = "@bob:s2"
	cat  = "@cat:s3"
	dan  = "@dan:s1"
)

func users() []string { return []string{ann, bob, cat, dan} }

// value tells what a text of JSON says, in order.
func value(s string) api.Json {
	j, err, at := canon.Decode([]byte(s))
	if err != api.OK {
		panic(fmt.Sprintf("%s: error %d at %d", s, err, at))
	}
	return j
}

func word(s string) api.Json { return api.Json{Kind: api.JText, Text: s} }

func list(l ...api.Json) api.Json { return api.Json{Kind: api.JList, List: l} }

// table makes a map of keys and as many values.
func table(keys []string, l ...api.Json) api.Json {
	return api.Json{Kind: api.JMap, Keys: keys, List: l}
}

// name tells an event's name by a number, by Go's own base64.
func name(n int) string {
	return "$" + base64.RawStdEncoding.EncodeToString(binary.BigEndian.AppendUint64(nil, uint64(n)))
}

// plain tells an event that is not of a state.
func plain(kind, sender, content string) api.Event {
	return api.Event{Room: here, Type: kind, Sender: sender, Content: value(content)}
}

// of tells an event of a state.
func of(kind, key, sender, content string) api.Event {
	e := plain(kind, sender, content)
	e.IsState, e.Key = true, key
	return e
}

// member tells what a sender makes of a user's membership.
func member(sender, user, membership string) api.Event {
	return of(api.TMember, user, sender, `{"membership":"`+membership+`"}`)
}

// is tells a membership as a state has it.
func is(user, membership string) api.Event { return member(user, user, membership) }

func create() api.Event { return of(api.TCreate, "", ann, `{"creator":"`+ann+`"}`) }

func rule(r string) api.Event { return of(api.TRules, "", ann, `{"join_rule":"`+r+`"}`) }

func levels(content string) api.Event { return of(api.TPower, "", ann, content) }

func message(sender string) api.Event { return plain(api.TMessage, sender, `{"body":"x"}`) }

// with tells an event with something done to it.
func with(e api.Event, do ...func(e *api.Event)) api.Event {
	for _, d := range do {
		d(&e)
	}
	return e
}

func follows(names ...string) func(e *api.Event) {
	return func(e *api.Event) { e.Prev = names }
}

// stateOf tells a row of events as a state: the first one's name is name(1).
func stateOf(l ...api.Event) []api.Known {
	var state []api.Known
	for i, e := range l {
		state = append(state, api.Known{Name: name(i + 1), Event: e})
	}
	return state
}

// opened tells the state of a room that was created, with these events.
func opened(l ...api.Event) []api.Known {
	return stateOf(append([]api.Event{create()}, l...)...)
}

// short tells an event in not too many letters.
func short(e api.Event) string {
	return fmt.Sprintf("%.500q", fmt.Sprintf("%s by %s, state %t, key %q, %+v", e.Type, e.Sender, e.IsState, e.Key, e.Content))
}

// judged holds Judge to an answer.
func judged(t *testing.T, what string, e api.Event, state []api.Known, want api.Errno) {
	t.Helper()
	if err := Judge(e, state); err != want {
		t.Errorf("%s: error %d, not %d: %s", what, err, want, short(e))
	}
}

func allowed(t *testing.T, what string, e api.Event, state []api.Known) {
	t.Helper()
	judged(t, what, e, state, api.OK)
}

func denied(t *testing.T, what string, e api.Event, state []api.Known) {
	t.Helper()
	judged(t, what, e, state, api.ErrDenied)
}

// either holds Judge to a yes or a no.
func either(t *testing.T, what string, e api.Event, state []api.Known, yes bool) {
	t.Helper()
	if yes {
		allowed(t, what, e, state)
	} else {
		denied(t, what, e, state)
	}
}

// spot is a type and a key.
type spot struct{ kind, key string }

// model is a state by type and key.
type model map[spot]api.Known

func modelOf(state []api.Known) model {
	m := model{}
	for _, k := range slices.Backward(state) {
		if k.Event.IsState {
			m[spot{k.Event.Type, k.Event.Key}] = k
		}
	}
	return m
}

// goText tells the text under a key of a good content, by Go's own JSON reader.
func goText(content api.Json, under string) string {
	b, _ := canon.Encode(content)
	var m map[string]any
	if json.Unmarshal(b, &m) != nil {
		return ""
	}
	s, _ := m[under].(string)
	return s
}

func (m model) text(kind, key, under string) string {
	return goText(m[spot{kind, key}].Event.Content, under)
}

// modelJudge is the chapter's words, gone through one by one; it tells by which of them it answers, too.
func modelJudge(e api.Event, state []api.Known) (bool, string) {
	m := modelOf(state)
	if e.Type == api.TCreate {
		server := strings.SplitN(e.Sender, ":", 2)[1]
		return e.IsState && e.Key == "" && len(e.Prev)+len(e.Auth) == 0 && strings.HasSuffix(e.Room, ":"+server) && goText(e.Content, "creator") == e.Sender, "1"
	}
	create, ok := m[spot{api.TCreate, ""}]
	if !ok || create.Event.Room != e.Room {
		return false, "2 create"
	}
	l := power.Start(create.Event.Sender)
	tells, told := m[spot{api.TPower, ""}]
	if told {
		var err api.Errno
		if l, err = power.Parse(tells.Event.Content); err != api.OK {
			return false, "2 levels"
		}
	}
	if e.Type == api.TMember {
		return modelMember(e, m, create, l)
	}
	s := power.User(l, e.Sender)
	if m.text(api.TMember, e.Sender, "membership") != "join" {
		return false, "4"
	}
	if s < power.Type(l, e.Type, e.IsState) {
		return false, "5"
	}
	if e.IsState && len(e.Key) > 0 && e.Key[0] == '@' && e.Key != e.Sender {
		return false, "6"
	}
	if e.IsState && e.Type == api.TPower && e.Key == "" {
		next, err := power.Parse(e.Content)
		if err != api.OK {
			return false, "7 no levels"
		}
		if !told {
			return true, "7 first levels"
		}
		return power.May(l, next, e.Sender), "7 levels"
	}
	return true, "8"
}

// modelMember is the third rule.
func modelMember(e api.Event, m model, create api.Known, l api.Levels) (bool, string) {
	if !e.IsState || !slices.Contains(users(), e.Key) {
		return false, "3 key"
	}
	sender, target := m.text(api.TMember, e.Sender, "membership"), m.text(api.TMember, e.Key, "membership")
	s, t := power.User(l, e.Sender), power.User(l, e.Key)
	switch goText(e.Content, "membership") {
	case "join":
		switch {
		case e.Key != e.Sender:
			return false, "3 join of another one"
		case len(e.Prev) == 1 && e.Prev[0] == create.Name && create.Event.Sender == e.Sender:
			return true, "3 join of the creator"
		case target == "ban":
			return false, "3 join, banned"
		case target == "join" || target == "invite":
			return true, "3 join, let in"
		}
		return m.text(api.TRules, "", "join_rule") == "public", "3 join by the rule"
	case "invite":
		return sender == "join" && target != "join" && target != "ban" && s >= l.Invite, "3 invite"
	case "leave":
		switch {
		case e.Key == e.Sender:
			return target == "join" || target == "invite", "3 leave"
		case sender != "join":
			return false, "3 kick, not joined"
		case target == "ban" && s < l.Ban:
			return false, "3 kick, banned"
		}
		return s >= l.Kick && s > t, "3 kick"
	case "ban":
		return sender == "join" && s >= l.Ban && s > t, "3 ban"
	}
	return false, "3 nothing"
}

// pick tells one of a row by chance.
func pick[T any](r *rand.Rand, row ...T) T { return row[r.Intn(len(row))] }

// chanceLevels tells a content that tells levels, most of the time.
func chanceLevels(r *rand.Rand) api.Json {
	level := func() api.Json { return api.Json{Kind: api.JInt, Int: pick[int64](r, 0, 1, 49, 50, 51, 100)} }
	some := func(most int, keys ...string) api.Json {
		c := table(nil)
		for _, at := range r.Perm(len(keys))[:r.Intn(most+1)] {
			c.Keys, c.List = append(c.Keys, keys[at]), append(c.List, level())
		}
		return c
	}
	c := some(2, "ban", "kick", "invite", "redact", "state_default", "events_default", "users_default", "x")
	if r.Intn(8) > 0 {
		c.Keys, c.List = append(c.Keys, "users"), append(c.List, some(4, users()...))
	}
	if r.Intn(3) == 0 {
		c.Keys, c.List = append(c.Keys, "events"), append(c.List, some(2, api.TName, api.TMessage, api.TPower, api.TMember))
	}
	if r.Intn(15) == 0 {
		c.Keys, c.List = append(c.Keys, "redact_"), append(c.List, word("x"))
	}
	if r.Intn(15) == 0 && !slices.Contains(c.Keys, "kick") {
		c.Keys, c.List = append(c.Keys, "kick"), append(c.List, word("50"))
	}
	return c
}

// changed tells a content that tells levels with another level somewhere, most of the time.
func changed(r *rand.Rand, c api.Json) api.Json {
	at := slices.Index(c.Keys, "ban")
	c.Keys, c.List = slices.Clone(c.Keys), slices.Clone(c.List)
	if at < 0 {
		at, c.Keys, c.List = len(c.Keys), append(c.Keys, "ban"), append(c.List, api.Json{})
	}
	c.List[at] = api.Json{Kind: api.JInt, Int: pick[int64](r, 0, 50, 50, 51, 100)}
	return c
}

// chanceContent tells a content such as events of a type have, and others.
func chanceContent(r *rand.Rand, kind string) api.Json {
	key, l := "body", []string{"x"}
	switch kind {
	case api.TPower:
		return chanceLevels(r)
	case api.TMember:
		key, l = "membership", []string{"join", "join", "join", "invite", "leave", "leave", "ban", "ban", "knock", ""}
	case api.TRules:
		key, l = "join_rule", []string{"public", "public", "invite", ""}
	case api.TCreate:
		key, l = "creator", []string{ann, ann, ann, bob}
	}
	c := table([]string{key}, word(pick(r, l...)))
	switch r.Intn(12) {
	case 0:
		c = table(nil)
	case 1:
		c.List[0] = pick(r, api.Json{}, api.Json{Kind: api.JInt, Int: 1}, list(word("join")), table([]string{key}, word("join")))
	case 2:
		c.Keys, c.List = append(c.Keys, "a"), append(c.List, word("join"))
	}
	return c
}

// chanceEvent tells a well shaped event by chance, of a room whose create event has that name.
func chanceEvent(r *rand.Rand, created string) api.Event {
	e := api.Event{Room: here, Sender: pick(r, ann, ann, ann, bob, cat, dan), IsState: r.Intn(5) > 0}
	e.Type = pick(r, api.TMember, api.TMember, api.TMember, api.TMember, api.TPower, api.TPower, api.TName, api.TMessage, api.TCreate, api.TRules, "x")
	if e.IsState {
		e.Key = pick(r, "", "", ann, bob, cat, dan, e.Sender, e.Sender, "x", "@x", "@")
	}
	if e.IsState && e.Type == api.TMember && r.Intn(8) > 0 {
		e.Key = pick(r, append(users(), e.Sender)...)
	}
	if r.Intn(40) == 0 {
		e.Room = "!other:s1"
	}
	if e.Type == api.TCreate && r.Intn(2) == 0 {
		e.IsState, e.Key = true, ""
	}
	e.Prev = pick(r, nil, nil, []string{created}, []string{created}, []string{created, name(99)}, []string{name(99)})
	if e.Type != api.TCreate || r.Intn(4) == 0 {
		e.Auth = pick(r, nil, []string{created})
	}
	e.Content = chanceContent(r, e.Type)
	return e
}

// chanceState tells a state by chance, in any order, with things in it that do not count; and its create event's name.
func chanceState(r *rand.Rand) ([]api.Known, string) {
	var l []api.Event
	put := func(kind, key string, often int) {
		for range often {
			l = append(l, with(of(kind, key, ann, `{}`), func(e *api.Event) {
				e.Content = chanceContent(r, kind)
				e.IsState = r.Intn(12) > 0
			}))
		}
	}
	for _, user := range users() {
		if user == ann || r.Intn(3) == 0 {
			l = append(l, is(user, "join"))
		} else {
			put(api.TMember, user, pick(r, 0, 1, 1, 1, 2))
		}
	}
	put(api.TMember, ann, pick(r, 0, 0, 1))
	put(api.TPower, "", pick(r, 0, 1, 1, 2))
	put(api.TPower, pick(r, "x", ann), r.Intn(2))
	put(api.TRules, "", pick(r, 0, 1, 2))
	put(api.TRules, "x", r.Intn(2))
	put(api.TName, "", r.Intn(2))
	put(api.TMember, "", r.Intn(2))
	r.Shuffle(len(l), func(i, j int) { l[i], l[j] = l[j], l[i] })
	for range pick(r, 1, 1, 1, 1, 2, 2, 2, 2) {
		e := with(create(), func(e *api.Event) {
			e.Sender = pick(r, ann, ann, ann, dan)
			switch r.Intn(40) {
			case 0:
				e.Key = "x"
			case 1:
				e.IsState = false
			case 2:
				e.Room = "!other:s1"
			}
		})
		l = slices.Insert(l, r.Intn(len(l)+1), e)
	}
	state := stateOf(l...)
	return state, modelOf(state)[spot{api.TCreate, ""}].Name
}

// chance tells a well shaped event and a state. Of a room without a create event it follows some other one.
func chance(t *testing.T, r *rand.Rand) (api.Event, []api.Known) {
	t.Helper()
	state, created := chanceState(r)
	if created == "" {
		created = name(98)
	}
	e := chanceEvent(r, created)
	if old, ok := modelOf(state)[spot{api.TPower, ""}]; ok && e.Type == api.TPower && r.Intn(2) == 0 {
		e.Content = changed(r, old.Event.Content)
	}
	if err := event.Shape(e); err != api.OK {
		t.Fatalf("error %d: %+v", err, e)
	}
	return e, state
}
