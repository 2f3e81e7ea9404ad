package room

import (
	"slices"

	"agora/api"
)

// How an event says that its key is joined.
const (
	keyMembership = "membership"
	join          = "join"
)

// joins tells whether the event of a place is a membership that is join. Its content is good: each key has its value, and nothing but a text has letters.
func (r *Room) joins(i int) bool {
	e := &r.past.Events[i]
	at := slices.Index(e.Content.Keys, keyMembership)
	return e.Type == api.TMember && at >= 0 && e.Content.List[at].Text == join
}

// copied tells an event in memory of its own, so that nobody can write to what a room has, or was handed.
func copied(e api.Event) api.Event {
	e.Content = copiedJson(e.Content)
	e.Prev, e.Auth, e.Sigs = slices.Clone(e.Prev), slices.Clone(e.Auth), slices.Clone(e.Sigs)
	return e
}

func copiedJson(j api.Json) api.Json {
	j.Keys, j.List = slices.Clone(j.Keys), slices.Clone(j.List)
	for i, value := range j.List {
		j.List[i] = copiedJson(value)
	}
	return j
}
