package auth

import (
	"slices"

	"agora/api"
)

// The keys of contents that the rules ask for.
const (
	keyCreator    = "creator"
	keyMembership = "membership"
	keyRule       = "join_rule"
)

// text tells the text under a key of a content; empty, if there is none, or no text there. The content of a state's event may be anything, so a key may lack its value.
func text(content api.Json, key string) string {
	at := slices.Index(content.Keys, key)
	if content.Kind != api.JMap || at < 0 || at >= len(content.List) || content.List[at].Kind != api.JText {
		return ""
	}
	return content.List[at].Text
}

// find tells the event of a type and a key in a state, and whether there is one: the first one counts.
func find(state []api.Known, kind, key string) (api.Known, bool) {
	for i := range state {
		if e := &state[i].Event; e.IsState && e.Type == kind && e.Key == key {
			return state[i], true
		}
	}
	return api.Known{}, false
}

// textOf tells the text under a key of the event of a type and a key in a state.
func textOf(state []api.Known, kind, key, under string) string {
	// Without such an event the content is null, which has no texts.
	k, _ := find(state, kind, key)
	return text(k.Event.Content, under)
}
