package auth

import (
	"agora/api"
	"agora/values"
)

// The keys of contents that the rules ask for.
const (
	keyCreator    = "creator"
	keyMembership = "membership"
	keyRule       = "join_rule"
)

// find tells the event of a type and a key in a state, and whether there is one: the first one counts.
func find(state []api.Known, kind, key string) (api.Known, bool) {
	for i := range state {
		if e := &state[i].Event; e.IsState && e.Type == kind && e.Key == key {
			return state[i], true
		}
	}
	return api.Known{}, false
}

// textOf tells the text under a key of the event of a type and a key in a state, whose content may be anything.
func textOf(state []api.Known, kind, key, under string) string {
	// Without such an event the content is null, which has no texts.
	k, _ := find(state, kind, key)
	return values.TextAt(k.Event.Content, under)
}
