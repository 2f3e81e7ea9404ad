package choose

import (
	"math/rand"
	"slices"
	"testing"

	"agora/api"
	"agora/auth"
	"agora/event"
	"agora/room"
)

// modelHeads tells the heads by chapter 14's words: what is not denied, and what none follows that is not denied.
func modelHeads(r *room.Room) []int {
	p := r.Past()
	var l []int
	for i := range p.Events {
		followed := false
		for j := range p.Events {
			followed = followed || !p.Denied[j] && slices.Contains(p.Prev[j], i)
		}
		if !p.Denied[i] && !followed {
			l = append(l, i)
		}
	}
	return l
}

// modelPrevs tells Prevs by the chapter's words: the eldest head is taken, as long as there is one, and most are not told.
func modelPrevs(r *room.Room, most int) []int {
	left := modelHeads(r)
	var l []int
	for len(l) < most && len(left) > 0 {
		best := 0
		for i := range left {
			one, other := r.Known(left[i]), r.Known(left[best])
			if a, b := one.Event.Depth, other.Event.Depth; a < b || a == b && one.Name < other.Name {
				best = i
			}
		}
		l = append(l, left[best])
		left = slices.Delete(left, best, best+1)
	}
	slices.Sort(l)
	return l
}

// modelHeight tells a depth by chapter 14's words.
func modelHeight(l []int64) int64 {
	if len(l) == 0 {
		return 0
	}
	h := slices.Max(l)
	switch {
	case h >= api.MaxHeight:
		return api.MaxHeight
	case h < 0:
		return 0
	}
	return h + 1
}

// modelDraft tells Draft by the chapter's words, one by one.
func modelDraft(r *room.Room, e api.Event, most int) (api.Event, api.Errno) {
	if r == nil || most < 1 || most > api.MaxPrev {
		return api.Event{}, api.ErrArg
	}
	d := e
	d.Prev, d.Auth, d.Hash, d.Sigs = nil, nil, "", nil
	prevs := modelPrevs(r, most)
	var depths []int64
	for _, i := range prevs {
		d.Prev, depths = append(d.Prev, r.Known(i).Name), append(depths, r.Known(i).Event.Depth)
	}
	d.Depth = modelHeight(depths)
	var whole []api.Known
	s := r.Come(prevs)
	for _, one := range s {
		whole = append(whole, r.Known(one.At))
	}
	for _, w := range auth.Wanted(e) {
		for i, one := range s {
			if one.Type == w.Type && one.Key == w.Key {
				d.Auth = append(d.Auth, whole[i].Name)
			}
		}
	}
	switch err := event.Shape(d); {
	case err != api.OK:
		return api.Event{}, err
	case e.Type == api.TCreate && r.Len() > 0:
		return api.Event{}, api.ErrHave
	case e.Type != api.TCreate && len(modelHeads(r)) == 0:
		return api.Event{}, api.ErrNone
	case auth.Judge(d, whole) != api.OK:
		return api.Event{}, api.ErrDenied
	}
	return d, api.OK
}

// chanceEvent tells an event such as rooms have, most of the time.
func chanceEvent(r *rand.Rand) api.Event {
	sender, other := pick(r, ann, ann, ann, bob, bob, cat, dan), pick(r, ann, bob, cat, dan)
	switch r.Intn(14) {
	case 0, 1:
		return gives(sender, pick(r, 0, 50, 50, 100), pick(r, 0, 20, 50))
	case 2:
		return rule(sender, pick(r, "public", "public", "invite"))
	case 3, 4:
		return joined(pick(r, bob, cat, cat, dan, dan))
	case 5:
		return member(sender, sender, "leave")
	case 6, 7, 8:
		return member(sender, other, pick(r, "leave", "ban", "invite", "invite"))
	case 9, 10:
		return pick(r, message(sender), plain(api.TDummy, sender, `{}`))
	case 11:
		return pick(r, create(pick(r, ann, dan)), of(api.TPower, "", sender, `{"ban":"x"}`), plain(api.TPower, sender, `{}`),
			of(api.TPower, "k", sender, `{}`), of("x", "k", sender, `{}`), of(api.TName, other, sender, `{}`), plain(api.TMember, sender, `{}`))
	}
	return title(sender, "x")
}

// chancePrev tells what an event follows: one or some of the last places, or of the heads.
func chancePrev(r *rand.Rand, h *house) []int {
	from := h.Heads()
	if r.Intn(4) > 0 {
		from = nil
		for i := range h.Len() {
			from = append(from, i)
		}
	}
	var l []int
	for range pick(r, 1, 1, 1, 1, 1, 1, 2, 3) {
		l = append(l, from[len(from)-1-min(r.Intn(len(from)), r.Intn(12))])
	}
	slices.Sort(l)
	return slices.Compact(l)
}

// chance tells a room of the usual beginning and n events more, made in branches; names are by chance, and some events are denied.
func chance(t *testing.T, r *rand.Rand, n int) *house {
	t.Helper()
	h := begun(t)
	for len(h.Heads()) > 0 && n > 0 {
		n--
		e := h.made(chanceEvent(r), chancePrev(r, h)...)
		e.Ts = int64(r.Intn(8))
		if r.Intn(12) == 0 {
			e.Depth += pick[int64](r, 1, 5, 1<<20)
		}
		h.add(name(int(r.Uint64())), e)
	}
	return h
}
