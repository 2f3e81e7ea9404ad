package choose

import (
	"cmp"
	"slices"

	"agora/api"
	"agora/auth"
	"agora/room"
)

// head is a head of a room, with all that its age hangs on.
type head struct {
	at    int
	depth int64
	name  string
}

// eldest tells no more than most of the room's heads, the eldest first.
func eldest(r *room.Room, most int) []head {
	var l []head
	for _, i := range r.Heads() {
		k := r.Known(i)
		l = append(l, head{i, k.Event.Depth, k.Name})
	}
	slices.SortFunc(l, func(a, b head) int {
		return cmp.Or(cmp.Compare(a.depth, b.depth), cmp.Compare(a.name, b.name))
	})
	return l[:min(max(most, 0), len(l))]
}

// hung tells the events of a state on which an event hangs, in the order in which it wants them.
func hung(r *room.Room, e api.Event, state []api.Spot) []api.Known {
	wanted := auth.Wanted(e)
	places := map[api.Entry]int{}
	for _, s := range state {
		// A state may have very many spots, of which an event wants a few.
		if under := (api.Entry{Type: s.Type, Key: s.Key}); slices.Contains(wanted, under) {
			places[under] = s.At
		}
	}
	var l []api.Known
	for _, under := range wanted {
		if i, ok := places[under]; ok {
			l = append(l, r.Known(i))
		}
	}
	return l
}

// drafted tells an event as it would follow these places, and lean on these events, whether it may or not.
func drafted(r *room.Room, e api.Event, prev []int, leant []api.Known) api.Event {
	d := api.Event{Room: e.Room, Type: e.Type, Sender: e.Sender, IsState: e.IsState, Key: e.Key, Content: e.Content, Ts: e.Ts}
	var depths []int64
	for _, i := range prev {
		k := r.Known(i)
		d.Prev, depths = append(d.Prev, k.Name), append(depths, k.Event.Depth)
	}
	d.Depth = room.Height(depths)
	for _, k := range leant {
		d.Auth = append(d.Auth, k.Name)
	}
	return d
}
