package ranks

import (
	"cmp"
	"slices"

	"agora/api"
)

// comparison tells which of two places stands first: a, if it is below 0; b, if it is above; 0, if it does not tell.
type comparison func(a, b int) int

// inTurn asks one comparison behind the other, till one tells which.
func inTurn(comparisons ...comparison) comparison {
	return func(a, b int) int {
		for _, c := range comparisons {
			if d := c(a, b); d != 0 {
				return d
			}
		}
		return 0
	}
}

// ranked tells places in order: the greater number first, then the less Ts, then the less name, then the less place.
func ranked(p api.Past, places []int, number func(i int) int64) []int {
	numbers := make(map[int]int64, len(places))
	for _, i := range places {
		numbers[i] = number(i)
	}
	greater := func(a, b int) int { return cmp.Compare(numbers[b], numbers[a]) }
	earlier := func(a, b int) int { return cmp.Compare(p.Events[a].Ts, p.Events[b].Ts) }
	named := func(a, b int) int { return cmp.Compare(p.Names[a], p.Names[b]) }
	l := slices.Clone(places)
	slices.SortFunc(l, inTurn(greater, earlier, named, cmp.Compare[int]))
	return l
}
