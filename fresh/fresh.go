// Package fresh tells events and values again in memory of their own, so that who is told them may write to them, and who has them has them still.
package fresh

import (
	"slices"

	"agora/api"
)

// Event tells an event again.
func Event(e api.Event) api.Event {
	e.Content = Json(e.Content)
	e.Prev, e.Auth, e.Sigs = slices.Clone(e.Prev), slices.Clone(e.Auth), slices.Clone(e.Sigs)
	return e
}

// Json tells a value again. It holds no part of itself, as no value does that canon calls good.
func Json(j api.Json) api.Json {
	j.Keys, j.List = slices.Clone(j.Keys), slices.Clone(j.List)
	for i, value := range j.List {
		j.List[i] = Json(value)
	}
	return j
}
