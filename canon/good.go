package canon

import (
	"slices"
	"strings"
	"unicode/utf8"

	"agora/api"
)

// goodAt tells whether a value that stands that deep is good. It never goes below MaxDepth, so that it ends on lists that hold themselves, too.
func goodAt(j api.Json, deep int) bool {
	if deep > api.MaxDepth || !bare(j) {
		return false
	}
	switch j.Kind {
	case api.JNull:
		return true
	case api.JBool:
		return j.Int == 0 || j.Int == 1
	case api.JInt:
		return -api.MaxInt <= j.Int && j.Int <= api.MaxInt
	case api.JText:
		return letters(j.Text)
	case api.JList:
		return goodAll(j.List, deep+1)
	case api.JMap:
		return len(j.Keys) == len(j.List) && goodKeys(j.Keys) && goodAll(j.List, deep+1)
	}
	return false
}

// bare tells whether all that a value's kind does not have is zero.
func bare(j api.Json) bool {
	if j.Int != 0 && j.Kind != api.JBool && j.Kind != api.JInt {
		return false
	}
	if j.Text != "" && j.Kind != api.JText {
		return false
	}
	if len(j.Keys) > 0 && j.Kind != api.JMap {
		return false
	}
	return len(j.List) == 0 || j.Kind == api.JList || j.Kind == api.JMap
}

func goodAll(l []api.Json, deep int) bool {
	for _, j := range l {
		if !goodAt(j, deep) {
			return false
		}
	}
	return true
}

// goodKeys tells whether keys are UTF-8, and no two the same: in order, the same ones are neighbours.
func goodKeys(keys []string) bool {
	places := rising(keys)
	for i, at := range places {
		if !letters(keys[at]) || i > 0 && keys[places[i-1]] == keys[at] {
			return false
		}
	}
	return true
}

// rising tells the places of keys, in the order in which the keys rise.
func rising(keys []string) []int {
	places := make([]int, len(keys))
	for i := range places {
		places[i] = i
	}
	slices.SortFunc(places, func(a, b int) int { return strings.Compare(keys[a], keys[b]) })
	return places
}

// arranged tells a good value in order, in new memory.
func arranged(j api.Json) api.Json {
	var list []api.Json
	for _, v := range j.List {
		list = append(list, arranged(v))
	}
	if j.Kind == api.JMap {
		return mapOf(j.Keys, list)
	}
	return api.Json{Kind: j.Kind, Int: j.Int, Text: j.Text, List: list}
}

// mapOf tells the map of these keys and values, in order.
func mapOf(keys []string, list []api.Json) api.Json {
	j := api.Json{Kind: api.JMap}
	for _, at := range rising(keys) {
		j.Keys = append(j.Keys, keys[at])
		j.List = append(j.List, list[at])
	}
	return j
}

func letters(s string) bool {
	_, bad := stray(s)
	return !bad
}

// stray tells the place of the first byte that is no letter's, if there is one.
func stray(s string) (int, bool) {
	for i, r := range s {
		// The range tells RuneError for a byte that is no letter's, but that letter itself is a right one.
		if r == utf8.RuneError && !strings.HasPrefix(s[i:], "\uFFFD") {
			return i, true
		}
	}
	return 0, false
}
