package power

import (
	"slices"

	"agora/api"
	"agora/ident"
)

// The keys of a content that count.
const (
	keyBan    = "ban"
	keyKick   = "kick"
	keyInvite = "invite"
	keyRedact = "redact"
	keyState  = "state_default"
	keyEvents = "events_default"
	keyUsers  = "users_default"
	keyByUser = "users"
	keyByType = "events"
)

// reader takes levels out of a content that is in order; bad is set once one of them may not be.
type reader struct {
	content api.Json
	bad     bool
}

// under tells the value of a key, if it is there.
func (r *reader) under(key string) (api.Json, bool) {
	at, ok := slices.BinarySearch(r.content.Keys, key)
	if !ok {
		return api.Json{}, false
	}
	return r.content.List[at], true
}

// number tells the level under a key; if there is nothing, the other one.
func (r *reader) number(key string, other int64) int64 {
	j, ok := r.under(key)
	if !ok {
		return other
	}
	return r.level(j)
}

func (r *reader) level(j api.Json) int64 {
	if j.Kind != api.JInt || j.Int < -api.MaxLevel || j.Int > api.MaxLevel {
		r.bad = true
	}
	return j.Int
}

// row tells the levels in the map under a key, all of whose names must fit. They rise, as the content is in order.
func (r *reader) row(key string, fits func(string) bool) []api.Named {
	j, ok := r.under(key)
	if !ok {
		return nil
	}
	if j.Kind != api.JMap {
		r.bad = true
	}
	var named []api.Named
	for i, name := range j.Keys {
		if !fits(name) {
			r.bad = true
		}
		named = append(named, api.Named{Name: name, Level: r.level(j.List[i])})
	}
	return named
}

func isUser(s string) bool {
	_, _, ok := ident.User(s)
	return ok
}
