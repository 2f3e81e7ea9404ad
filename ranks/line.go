package ranks

import (
	"iter"

	"agora/api"
)

// way goes along the line of a place: each time back to the levels that the place at hand leans on.
func way(p api.Past, i int) iter.Seq[int] {
	return func(yield func(int) bool) {
		for at, ok := i, has(p, i); ok && yield(at); {
			at, ok = leansOn(p, at, api.TPower)
		}
	}
}

// measure tells how far back in a line places stand.
type measure struct {
	found map[int]int // of places of the line, and of all that were asked for
	none  int         // of those whose own line does not meet it
}

func measureOf(line []int) measure { return measure{found: stands(line), none: len(line)} }

// near tells where the line of a place meets the one that is measured by. All places ahead of where they meet have the same answer: it is put down, so that nobody goes the same way again.
func (m measure) near(p api.Past, i int) int {
	near := m.none
	var gone []int
	for at := range way(p, i) {
		if n, ok := m.found[at]; ok {
			near = n
			break
		}
		gone = append(gone, at)
	}
	for _, at := range gone {
		m.found[at] = near
	}
	return near
}
