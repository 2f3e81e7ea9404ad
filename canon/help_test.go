package canon

import (
	"math/rand"
	"slices"
	"strings"
	"testing"

	"agora/api"
)

func null() api.Json { return api.Json{Kind: api.JNull} }

func truth(n int64) api.Json { return api.Json{Kind: api.JBool, Int: n} }

func number(n int64) api.Json { return api.Json{Kind: api.JInt, Int: n} }

func text(s string) api.Json { return api.Json{Kind: api.JText, Text: s} }

func list(l ...api.Json) api.Json { return api.Json{Kind: api.JList, List: l} }

// table makes a map of keys and as many values.
func table(keys []string, l ...api.Json) api.Json {
	return api.Json{Kind: api.JMap, Keys: keys, List: l}
}

// nested puts a value into that many lists.
func nested(n int, j api.Json) api.Json {
	for range n {
		j = list(j)
	}
	return j
}

// same holds two values against each other; an empty list may be nil.
func same(a, b api.Json) bool {
	return a.Kind == b.Kind && a.Int == b.Int && a.Text == b.Text &&
		slices.Equal(a.Keys, b.Keys) && slices.EqualFunc(a.List, b.List, same)
}

// cloned tells a value of the same lengths and capacities, with what lies behind the ends.
func cloned(j api.Json) api.Json {
	keys, l := j.Keys[:cap(j.Keys)], j.List[:cap(j.List)]
	out := api.Json{Kind: j.Kind, Int: j.Int, Text: j.Text}
	if j.Keys != nil {
		out.Keys = append([]string{}, keys...)[:len(j.Keys)]
	}
	if j.List != nil {
		all := make([]api.Json, len(l))
		for i, v := range l {
			all[i] = cloned(v)
		}
		out.List = all[:len(j.List)]
	}
	return out
}

// untouched holds a value against its clone, with what lies behind the ends of the first one's lists.
func untouched(a, b api.Json) bool {
	ka, kb := a.Keys[:cap(a.Keys)], b.Keys[:cap(b.Keys)]
	la, lb := a.List[:cap(a.List)], b.List[:cap(b.List)]
	return a.Kind == b.Kind && a.Int == b.Int && a.Text == b.Text &&
		len(a.Keys) == len(b.Keys) && len(a.List) == len(b.List) &&
		slices.Equal(ka, kb[:len(ka)]) && slices.EqualFunc(la, lb[:len(la)], untouched)
}

// sorted tells whether the keys of all maps of a value rise.
func sorted(j api.Json) bool {
	for i := 1; i < len(j.Keys); i++ {
		if j.Keys[i-1] >= j.Keys[i] {
			return false
		}
	}
	for _, v := range j.List {
		if !sorted(v) {
			return false
		}
	}
	return true
}

// some letters that are of interest: those that are written otherwise, and the borders of UTF-8.
var someLetters = []rune{0, 1, 8, 9, 10, 11, 12, 13, 31, 32, '"', '/', '\\', '[', '{', ',', ':', '-', '0', 'a', 'b', 'u', 127, 128, 0xE9, 0x7FF, 0x800, 0xD7FF, 0xE000, 0xFFFD, 0xFFFF, 0x10000, 0x1F600, 0x10FFFF}

func anyText(r *rand.Rand) string {
	var b strings.Builder
	for range r.Intn(5) {
		b.WriteRune(someLetters[r.Intn(len(someLetters))])
	}
	return b.String()
}

// anyGood makes a good value that is no deeper than that; keys of its maps are in any order.
func anyGood(r *rand.Rand, deep int) api.Json {
	kinds := 6
	if deep == 1 {
		kinds = 4
	}
	switch r.Intn(kinds) {
	case 0:
		return null()
	case 1:
		return truth(r.Int63n(2))
	case 2:
		return number([]int64{0, 1, -1, 7, -90, api.MaxInt, -api.MaxInt, r.Int63n(api.MaxInt)}[r.Intn(8)])
	case 3:
		return text(anyText(r))
	case 4:
		j := list()
		for range r.Intn(4) {
			j.List = append(j.List, anyGood(r, deep-1))
		}
		return j
	}
	j := table(nil)
	for range r.Intn(5) {
		if k := anyText(r); !slices.Contains(j.Keys, k) {
			j.Keys = append(j.Keys, k)
			j.List = append(j.List, anyGood(r, deep-1))
		}
	}
	return j
}

// shuffled tells the same value with the keys of all its maps in another order.
func shuffled(r *rand.Rand, j api.Json) api.Json {
	j = cloned(j)
	for i := range j.List {
		j.List[i] = shuffled(r, j.List[i])
	}
	if j.Kind == api.JMap {
		r.Shuffle(len(j.Keys), func(a, b int) {
			j.Keys[a], j.Keys[b] = j.Keys[b], j.Keys[a]
			j.List[a], j.List[b] = j.List[b], j.List[a]
		})
	}
	return j
}

func mustDecode(t *testing.T, s string) api.Json {
	t.Helper()
	j, err, at := Decode([]byte(s))
	if err != api.OK || at != 0 {
		t.Fatalf("Decode(%.80q): error %d at %d", s, err, at)
	}
	return j
}

func mustEncode(t *testing.T, j api.Json) string {
	t.Helper()
	b, err := Encode(j)
	if err != api.OK {
		t.Fatalf("Encode(%+v): error %d", j, err)
	}
	return string(b)
}
