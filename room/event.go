package room

import (
	"agora/api"
	"agora/values"
)

// How an event says that its key is joined.
const (
	keyMembership = "membership"
	join          = "join"
)

// joins tells whether the event of a place is a membership that is join.
func (r *Room) joins(i int) bool {
	e := &r.past.Events[i]
	return e.Type == api.TMember && values.TextAt(e.Content, keyMembership) == join
}
