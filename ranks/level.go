package ranks

import (
	"agora/api"
	"agora/power"
)

// The memberships that take something from another user, and the key under which a membership stands.
const (
	leave         = "leave"
	ban           = "ban"
	keyMembership = "membership"
)

// isOf tells whether an event is of a state, of a type, with the empty key.
func isOf(e *api.Event, kind string) bool { return e.IsState && e.Type == kind && e.Key == "" }

// leansOn tells the first place that a place leans on whose event is of a type, with the empty key, and whether there is one.
func leansOn(p api.Past, i int, kind string) (int, bool) {
	for _, j := range p.Auth[i] {
		if isOf(&p.Events[j], kind) {
			return j, true
		}
	}
	return 0, false
}

// level tells Level of a place that is there.
func level(p api.Past, i int) int64 {
	sender := p.Events[i].Sender
	if at, ok := leansOn(p, i, api.TPower); ok {
		l, err := power.Parse(p.Events[at].Content)
		// Levels that are none name nobody, and are 0 for all.
		if err != api.OK {
			return 0
		}
		return power.User(l, sender)
	}
	if at, ok := leansOn(p, i, api.TCreate); ok {
		return power.User(power.Start(p.Events[at].Sender), sender)
	}
	return 0
}
