package room

import (
	"cmp"

	"agora/api"
)

// state is a room's state as a tree: to the left of a spot is what comes ahead of it, to the right what comes behind, and neither side is more than one level higher than the other one. Nothing in it is ever written to, so that states share all that they have in common, and a state of very many spots may stand behind very many events. Nil is the state without spots.
type state struct {
	spot        api.Spot
	left, right *state
	levels      int
}

// inOrder compares spots: by type, then by key.
func inOrder(a, b api.Spot) int {
	return cmp.Or(cmp.Compare(a.Type, b.Type), cmp.Compare(a.Key, b.Key))
}

// grown makes a state of spots that are in order.
func grown(l []api.Spot) *state {
	if len(l) == 0 {
		return nil
	}
	mid := len(l) / 2
	return node(grown(l[:mid]), l[mid], grown(l[mid+1:]))
}

func node(left *state, one api.Spot, right *state) *state {
	return &state{spot: one, left: left, right: right, levels: max(left.height(), right.height()) + 1}
}

func (s *state) height() int {
	if s == nil {
		return 0
	}
	return s.levels
}

// balanced makes a node of two sides, of which one may be two levels higher than the other one: then what is high comes up.
func balanced(left *state, one api.Spot, right *state) *state {
	switch left.height() - right.height() {
	case 2:
		if mid := left.right; mid.height() > left.left.height() {
			return node(node(left.left, left.spot, mid.left), mid.spot, node(mid.right, one, right))
		}
		return node(left.left, left.spot, node(left.right, one, right))
	case -2:
		if mid := right.left; mid.height() > right.right.height() {
			return node(node(left, one, mid.left), mid.spot, node(mid.right, right.spot, right.right))
		}
		return node(node(left, one, right.left), right.spot, right.right)
	}
	return node(left, one, right)
}

// with tells the state that has a spot more, or in the place of the one of its type and key.
func (s *state) with(one api.Spot) *state {
	if s == nil {
		return node(nil, one, nil)
	}
	switch d := inOrder(one, s.spot); {
	case d < 0:
		return balanced(s.left.with(one), s.spot, s.right)
	case d > 0:
		return balanced(s.left, s.spot, s.right.with(one))
	}
	return node(s.left, one, s.right)
}

// find tells the place of the spot of a type and a key, and whether there is one.
func (s *state) find(kind, key string) (int, bool) {
	wanted := api.Spot{Type: kind, Key: key}
	for s != nil {
		d := inOrder(wanted, s.spot)
		if d == 0 {
			return s.spot.At, true
		}
		if d < 0 {
			s = s.left
		} else {
			s = s.right
		}
	}
	return 0, false
}

// spots tells the state, in order.
func (s *state) spots() []api.Spot { return s.appended(nil) }

// appended puts the state's spots behind others.
func (s *state) appended(l []api.Spot) []api.Spot {
	if s == nil {
		return l
	}
	return s.right.appended(append(s.left.appended(l), s.spot))
}
