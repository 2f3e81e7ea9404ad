package resolve

import (
	"slices"

	"agora/api"
	"agora/order"
	"agora/ranks"
)

// standing counts in how many states each spot stands.
func standing(states [][]api.Spot) map[api.Spot]int {
	counts := map[api.Spot]int{}
	for _, s := range states {
		for _, one := range s {
			counts[one]++
		}
	}
	return counts
}

// settled tells the spots that stand in every state, in order.
func settled(states [][]api.Spot) []api.Spot {
	if len(states) == 0 {
		return nil
	}
	counts := standing(states)
	var l []api.Spot
	for _, one := range states[0] {
		if counts[one] == len(states) {
			l = append(l, one)
		}
	}
	return l
}

// contested tells the places of all spots that are not settled. As a state has one spot of a type and a key at most, there is no other spot of a settled one's; as a place has one type and one key, no place comes twice.
func contested(states [][]api.Spot) []int {
	left := standing(states)
	for _, one := range settled(states) {
		delete(left, one)
	}
	places := make([]int, 0, len(left))
	for one := range left {
		places = append(places, one.At)
	}
	slices.Sort(places)
	return places
}

// full tells what is contested, and what some states lean on, but not all.
func full(p api.Past, states [][]api.Spot) []int {
	chains := make([][]int, len(states))
	for i, s := range states {
		chains[i] = ranks.Chain(p, places(s))
	}
	return order.Union([][]int{contested(states), order.Apart(chains)})
}

// places tells the places of a state.
func places(s []api.Spot) []int {
	l := make([]int, len(s))
	for i, one := range s {
		l[i] = one.At
	}
	return l
}

// parted parts places: those that may change who may do what, with what these lean on, and the rest.
func parted(p api.Past, all []int) (first, rest []int) {
	var powers []int
	for _, i := range all {
		if ranks.Powers(p.Events[i]) {
			powers = append(powers, i)
		}
	}
	leant := order.Common([][]int{all, ranks.Chain(p, powers)})
	first = order.Union([][]int{powers, leant})
	return first, order.Apart([][]int{all, first})
}
