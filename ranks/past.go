package ranks

import (
	"slices"

	"agora/api"
)

// backwards tells whether there are n rows, all of whose places are below the row's own.
func backwards(rows [][]int, n int) bool {
	for i, row := range rows {
		for _, j := range row {
			if j < 0 || j >= i {
				return false
			}
		}
	}
	return len(rows) == n
}

// has tells whether a past has a place.
func has(p api.Past, i int) bool { return i >= 0 && i < len(p.Events) }

// there tells the places of a row that a past has, rising, each once.
func there(p api.Past, l []int) []int {
	var places []int
	for _, i := range l {
		if has(p, i) {
			places = append(places, i)
		}
	}
	slices.Sort(places)
	return slices.Compact(places)
}

// chain tells the chain of places that rise, and are there.
func chain(p api.Past, from []int) []int {
	if len(from) == 0 {
		return nil
	}
	top := from[len(from)-1]
	starts, leant := make([]bool, top+1), make([]bool, top+1)
	mark(starts, from)
	var places []int
	// All edges lead backwards: whoever leads to a place was seen ahead of it, if the greatest is seen first.
	for i := top; i >= 0; i-- {
		if leant[i] {
			places = append(places, i)
		}
		if leant[i] || starts[i] {
			mark(leant, p.Auth[i])
		}
	}
	slices.Reverse(places)
	return places
}

// mark marks the places of a row.
func mark(marks []bool, row []int) {
	for _, i := range row {
		marks[i] = true
	}
}

// stands tells where each place stands in a row: the first time, if it stands there twice.
func stands(row []int) map[int]int {
	at := make(map[int]int, len(row))
	for k, i := range row {
		if _, twice := at[i]; !twice {
			at[i] = k
		}
	}
	return at
}

// rows tells what each of some places leans on, by where it stands among them: they must have all their chain.
func rows(p api.Past, places []int) [][]int {
	at := stands(places)
	l := make([][]int, len(places))
	for k, i := range places {
		for _, j := range p.Auth[i] {
			l[k] = append(l[k], at[j])
		}
	}
	return l
}
