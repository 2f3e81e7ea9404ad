package room

import (
	"slices"

	"agora/api"
)

// How an event says that its key is joined.
const (
	keyMembership = "membership"
	join          = "join"
)

// joins tells whether the event of a place is a membership that is join. Its content is good: each key has its value, and nothing but a text has letters.
func (r *Room) joins(i int) bool {
	e := &r.past.Events[i]
	at := slices.Index(e.Content.Keys, keyMembership)
	return e.Type == api.TMember && at >= 0 && e.Content.List[at].Text == join
}
