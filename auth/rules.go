package auth

import (
	"strings"

	"agora/api"
	"agora/ident"
	"agora/power"
	"agora/values"
)

// Memberships, and the rule, that the rules know.
const (
	join   = "join"
	invite = "invite"
	leave  = "leave"
	ban    = "ban"
	public = "public"
)

// userSign is how keys begin that belong to the user whom they name.
const userSign = "@"

// ruling is what a rule says. It is thrown, so that no other rule is asked behind the first one that says something, wherever that stands.
type ruling struct{ allowed bool }

func says(allowed bool) { panic(ruling{allowed}) }

func yesIf(so bool) {
	if so {
		says(true)
	}
}

func noIf(so bool) {
	if so {
		says(false)
	}
}

// verdict tells what was thrown as an error. Only a rule's own yes allows anything.
func verdict(thrown any) api.Errno {
	if r, ok := thrown.(ruling); ok && r.allowed {
		return api.OK
	}
	return api.ErrDenied
}

// ask goes through the rules, of which one says yes or no.
func ask(e api.Event, state []api.Known) {
	if e.Type == api.TCreate {
		says(creates(e))
	}
	h := open(e, state)
	if e.Type == api.TMember {
		h.member()
	}
	noIf(!h.joined())
	noIf(h.s() < power.Type(h.levels, e.Type, e.IsState))
	noIf(e.IsState && strings.HasPrefix(e.Key, userSign) && !h.own())
	if e.IsState && e.Type == api.TPower && e.Key == "" {
		h.changesLevels()
	}
	says(true)
}

// creates tells whether a create event begins a room.
func creates(e api.Event) bool {
	return e.IsState && e.Key == "" && len(e.Prev) == 0 && len(e.Auth) == 0 &&
		ident.Home(e.Room) == ident.Home(e.Sender) && values.TextAt(e.Content, keyCreator) == e.Sender
}

// hearing is an event, and the state by which it is heard.
type hearing struct {
	event  api.Event
	state  []api.Known
	create api.Known
	levels api.Levels
	told   bool // the state has an event that tells the levels
}

// open says no, if the state has no create event of the room, or levels that are none.
func open(e api.Event, state []api.Known) *hearing {
	create, ok := find(state, api.TCreate, "")
	noIf(!ok || create.Event.Room != e.Room)
	h := &hearing{event: e, state: state, create: create, levels: power.Start(create.Event.Sender)}
	if k, ok := find(state, api.TPower, ""); ok {
		h.levels, h.told = levelsIn(k.Event), true
	}
	return h
}

// levelsIn says no of an event whose content tells no levels.
func levelsIn(e api.Event) api.Levels {
	l, err := power.Parse(e.Content)
	noIf(err != api.OK)
	return l
}

func (h *hearing) membership(user string) string {
	return textOf(h.state, api.TMember, user, keyMembership)
}

// joined tells whether the sender is, target the membership of the user who is the key.
func (h *hearing) joined() bool { return h.membership(h.event.Sender) == join }

func (h *hearing) target() string { return h.membership(h.event.Key) }

// s and t tell the levels of the sender, and of the user who is the key.
func (h *hearing) s() int64 { return power.User(h.levels, h.event.Sender) }

func (h *hearing) t() int64 { return power.User(h.levels, h.event.Key) }

// own tells whether the key is the sender.
func (h *hearing) own() bool { return h.event.Key == h.event.Sender }

// member judges an event of a membership, whatever its kind.
func (h *hearing) member() {
	_, _, user := ident.User(h.event.Key)
	noIf(!h.event.IsState || !user)
	switch values.TextAt(h.event.Content, keyMembership) {
	case join:
		h.joins()
	case invite:
		target := h.target()
		says(h.joined() && target != join && target != ban && h.s() >= h.levels.Invite)
	case leave:
		h.leaves()
	case ban:
		says(h.joined() && h.s() >= h.levels.Ban && h.s() > h.t())
	}
	says(false)
}

func (h *hearing) joins() {
	noIf(!h.own())
	// Who made the room can't be let in by anybody else.
	yesIf(h.followsCreateAlone() && h.create.Event.Sender == h.event.Sender)
	target := h.target()
	noIf(target == ban)
	yesIf(target == join || target == invite)
	says(textOf(h.state, api.TRules, "", keyRule) == public)
}

func (h *hearing) followsCreateAlone() bool {
	return len(h.event.Prev) == 1 && h.event.Prev[0] == h.create.Name
}

func (h *hearing) leaves() {
	target := h.target()
	if h.own() {
		says(target == join || target == invite)
	}
	noIf(!h.joined())
	noIf(target == ban && h.s() < h.levels.Ban)
	says(h.s() >= h.levels.Kick && h.s() > h.t())
}

// changesLevels judges an event that tells a room's levels.
func (h *hearing) changesLevels() {
	next := levelsIn(h.event)
	yesIf(!h.told)
	says(power.May(h.levels, next, h.event.Sender))
}
