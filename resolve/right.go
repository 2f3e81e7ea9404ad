package resolve

import (
	"cmp"

	"agora/api"
	"agora/ranks"
)

// inOrder compares spots: by type, then by key.
func inOrder(a, b api.Spot) int {
	return cmp.Or(cmp.Compare(a.Type, b.Type), cmp.Compare(a.Key, b.Key))
}

// rises tells whether the types and keys of a state do.
func rises(s []api.Spot) bool {
	for i := 1; i < len(s); i++ {
		if inOrder(s[i-1], s[i]) >= 0 {
			return false
		}
	}
	return true
}

// right tells whether a past is right, and states are right in it.
func right(p api.Past, states ...[]api.Spot) bool {
	if !ranks.Right(p) {
		return false
	}
	for _, s := range states {
		if !rises(s) || !stands(p, s) {
			return false
		}
	}
	return true
}

// stands tells whether all spots of a state are those of events of a right past.
func stands(p api.Past, s []api.Spot) bool {
	for _, one := range s {
		if !has(p, one.At) {
			return false
		}
		if e := &p.Events[one.At]; !e.IsState || slotOf(e) != (slot{one.Type, one.Key}) {
			return false
		}
	}
	return true
}

// has tells whether a past has a place.
func has(p api.Past, i int) bool { return i >= 0 && i < len(p.Events) }

// possible tells whether there is a past in which all these states are right: a place can't be of two types and keys.
func possible(states [][]api.Spot) bool {
	at := map[int]slot{}
	for _, s := range states {
		if !rises(s) {
			return false
		}
		for _, one := range s {
			now := slot{one.Type, one.Key}
			if was, told := at[one.At]; one.At < 0 || told && was != now {
				return false
			}
			at[one.At] = now
		}
	}
	return true
}
