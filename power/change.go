package power

import (
	"iter"
	"slices"

	"agora/api"
)

// held is the level that a name has, if it has one.
type held struct {
	has   bool
	level int64
}

// change is a name that has another level in the next row, or has one in but one of the two.
type change struct {
	name      string
	old, next held
}

// above tells whether something that the name has is above s.
func (c change) above(s int64) bool {
	return c.old.has && c.old.level > s || c.next.has && c.next.level > s
}

// changes goes through the changes from a row to the next one. A name that stands several times comes as often, each time with the same change.
func changes(old, next []api.Named) iter.Seq[change] {
	return func(yield func(change) bool) {
		before, after := byName(old), byName(next)
		for _, n := range slices.Concat(old, next) {
			c := change{name: n.Name, old: before[n.Name], next: after[n.Name]}
			if c.old != c.next && !yield(c) {
				return
			}
		}
	}
}

// byName tells what each name of a row has: of those that stand twice the first one counts.
func byName(row []api.Named) map[string]held {
	levels := make(map[string]held, len(row))
	for _, n := range row {
		if !levels[n.Name].has {
			levels[n.Name] = held{has: true, level: n.Level}
		}
	}
	return levels
}

// numbers tells the seven numbers as a row, so that their changes are gone through like any other ones.
func numbers(l api.Levels) []api.Named {
	return []api.Named{
		{Name: keyBan, Level: l.Ban},
		{Name: keyKick, Level: l.Kick},
		{Name: keyInvite, Level: l.Invite},
		{Name: keyRedact, Level: l.Redact},
		{Name: keyState, Level: l.State},
		{Name: keyEvents, Level: l.Events},
		{Name: keyUsers, Level: l.Users},
	}
}
