package resolve

import (
	"slices"

	"agora/api"
	"agora/auth"
)

// slot is a type and a key, of which a state has one spot at most.
type slot struct{ kind, key string }

func slotOf(e *api.Event) slot { return slot{e.Type, e.Key} }

// board is a state at hand: which place each slot has.
type board map[slot]int

func boardOf(s []api.Spot) board {
	b := make(board, len(s))
	b.put(s)
	return b
}

// put puts spots in the place of those of their slots.
func (b board) put(s []api.Spot) {
	for _, one := range s {
		b[slot{one.Type, one.Key}] = one.At
	}
}

// spots tells the state at hand, in order.
func (b board) spots() []api.Spot {
	s := make([]api.Spot, 0, len(b))
	for at, i := range b {
		s = append(s, api.Spot{Type: at.kind, Key: at.key, At: i})
	}
	slices.SortFunc(s, inOrder)
	return s
}

// levels tells the place of what tells the levels; -1, if there is none.
func (b board) levels() int {
	if i, ok := b[slot{kind: api.TPower}]; ok {
		return i
	}
	return -1
}

// walk hears places in their order: one that was heard changes by what the next ones are.
func (b board) walk(p api.Past, l []int) {
	for _, i := range l {
		if !has(p, i) || !counts(p, i) {
			continue
		}
		if e := &p.Events[i]; auth.Judge(*e, b.grounds(p, i)) == api.OK {
			b[slotOf(e)] = i
		}
	}
}

// counts tells whether the event of a place is of a state, and was not denied.
func counts(p api.Past, i int) bool { return p.Events[i].IsState && !p.Denied[i] }

// grounds tells what an event hangs on.
func (b board) grounds(p api.Past, i int) []api.Known {
	var l []api.Known
	for _, w := range auth.Wanted(p.Events[i]) {
		if j, ok := b.ground(p, i, slot{w.Type, w.Key}); ok {
			l = append(l, api.Known{Name: p.Names[j], Event: p.Events[j]})
		}
	}
	return l
}

// ground tells the place of a slot that an event hangs on, and whether there is one: what the state at hand does not have is taken from what the event itself leans on.
func (b board) ground(p api.Past, i int, wanted slot) (int, bool) {
	if j, ok := b[wanted]; ok {
		return j, true
	}
	for _, j := range p.Auth[i] {
		if counts(p, j) && slotOf(&p.Events[j]) == wanted {
			return j, true
		}
	}
	return 0, false
}
