package room

import (
	"slices"

	"agora/api"
	"agora/auth"
	"agora/resolve"
)

// has tells whether a room has a place.
func (r *Room) has(i int) bool { return i >= 0 && i < r.Len() }

// take gives an event its place, which the graph has already, and tells whether it is denied.
func (r *Room) take(e api.Event) bool {
	at := len(r.past.Events)
	prev, leant := r.Prev(at), r.Auth(at)
	ahead := r.come(prev)
	behind := ahead
	denied := r.denies(e, prev, leant, ahead)
	if !denied {
		follows := func(i int) bool { return slices.Contains(prev, i) }
		r.heads = append(slices.DeleteFunc(r.heads, follows), at)
	}
	if !denied && e.IsState {
		behind = ahead.with(api.Spot{Type: e.Type, Key: e.Key, At: at})
	}
	p := &r.past
	p.Names, p.Events, p.Denied = append(p.Names, r.Name(at)), append(p.Events, e), append(p.Denied, denied)
	p.Prev, p.Auth = append(p.Prev, prev), append(p.Auth, leant)
	r.ahead, r.behind = append(r.ahead, ahead), append(r.behind, behind)
	return denied
}

// denies tells whether an event is denied that follows and leans on these places, behind that state.
func (r *Room) denies(e api.Event, prev, leant []int, ahead *state) bool {
	return e.Depth != r.height(prev) || !r.leans(e, leant) ||
		e.Type != api.TCreate && len(prev) == 0 ||
		!r.allows(e, leant) || !r.allows(e, wantedOf(e, ahead))
}

// height tells Height of the depths of places.
func (r *Room) height(places []int) int64 {
	var depths []int64
	for _, i := range places {
		depths = append(depths, r.past.Events[i].Depth)
	}
	return Height(depths)
}

// leans tells whether an event leans on what it may lean on, and on what created the room, if it does not do that itself.
func (r *Room) leans(e api.Event, leant []int) bool {
	wanted := auth.Wanted(e)
	for _, i := range leant {
		on := &r.past.Events[i]
		at := slices.Index(wanted, api.Entry{Type: on.Type, Key: on.Key})
		if r.past.Denied[i] || !on.IsState || at < 0 {
			return false
		}
		// What is leant on once is wanted no more.
		wanted = slices.Delete(wanted, at, at+1)
	}
	return !slices.Contains(wanted, api.Entry{Type: api.TCreate})
}

// allows tells whether the rules allow an event by those of some places.
func (r *Room) allows(e api.Event, places []int) bool {
	var by []api.Known
	for _, i := range places {
		by = append(by, api.Known{Name: r.past.Names[i], Event: r.past.Events[i]})
	}
	return auth.Judge(e, by) == api.OK
}

// wantedOf tells the places of a state on which an event hangs.
func wantedOf(e api.Event, s *state) []int {
	var places []int
	for _, w := range auth.Wanted(e) {
		if i, ok := s.find(w.Type, w.Key); ok {
			places = append(places, i)
		}
	}
	return places
}

// now tells the room's state.
func (r *Room) now() *state {
	if r == nil {
		return nil
	}
	return r.come(r.heads)
}

// come tells what comes of the states behind places. One state is its own, however often it is told: so each is told once, and one alone is not resolved.
func (r *Room) come(places []int) *state {
	var states []*state
	for _, i := range places {
		if r.has(i) && !slices.Contains(states, r.behind[i]) {
			states = append(states, r.behind[i])
		}
	}
	switch len(states) {
	case 0:
		return nil
	case 1:
		return states[0]
	}
	var rows [][]api.Spot
	for _, s := range states {
		rows = append(rows, s.spots())
	}
	// All these states are right in the room's past, so that there is no error.
	l, _ := resolve.Resolve(r.past, rows)
	// What comes is often one of them: then it is shared.
	if at := slices.IndexFunc(rows, func(row []api.Spot) bool { return slices.Equal(row, l) }); at >= 0 {
		return states[at]
	}
	return grown(l)
}
