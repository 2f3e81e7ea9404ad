package dag

import "slices"

// thing is a name, and the places that it follows and leans on: rising, each once, all below its own.
type thing struct {
	name       string
	prev, auth []int
}

// at tells the thing at a place, else an empty one.
func (g *Graph) at(i int) thing {
	if i < 0 || i >= g.Len() {
		return thing{}
	}
	return g.things[i]
}

// follows tells what Prev does, in the graph's own memory.
func (g *Graph) follows(i int) []int { return g.at(i).prev }

// leans tells what Auth does, in the graph's own memory.
func (g *Graph) leans(i int) []int { return g.at(i).auth }

// row tells the places of names, rising, each once, and whether all have one.
func (g *Graph) row(names []string) ([]int, bool) {
	var places []int
	for _, name := range names {
		i, ok := g.Place(name)
		if !ok {
			return nil, false
		}
		places = append(places, i)
	}
	slices.Sort(places)
	// What is kept is as long as the row is, however often a name stood in it.
	return slices.Clone(slices.Compact(places)), true
}

// marked tells, place by place up to the greatest of l, whether it stands in l.
func (g *Graph) marked(l []int) []bool {
	top := -1
	for _, i := range l {
		if i < g.Len() {
			top = max(top, i)
		}
	}
	marks := make([]bool, top+1)
	for _, i := range l {
		if i >= 0 && i <= top {
			marks[i] = true
		}
	}
	return marks
}

// mark marks the places of a row.
func mark(marks []bool, row []int) {
	for _, i := range row {
		marks[i] = true
	}
}

// reached tells the places to which a way of edges, one at least, leads from a marked one.
func reached(from []bool, edges func(int) []int) []int {
	come := make([]bool, len(from))
	var places []int
	// All edges lead backwards: whoever leads to a place was seen ahead of it, if the greatest is seen first.
	for i := len(from) - 1; i >= 0; i-- {
		if come[i] {
			places = append(places, i)
		}
		if come[i] || from[i] {
			mark(come, edges(i))
		}
	}
	slices.Reverse(places)
	return places
}
