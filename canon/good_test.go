package canon

import (
	"math"
	"math/rand"
	"strings"
	"testing"

	"agora/api"
)

// goodOnes: values that are good (promise 1.1), by what they are there for.
func goodOnes() map[string]api.Json {
	return map[string]api.Json{
		"null":              null(),
		"null, empty lists": {Keys: []string{}, List: []api.Json{}},
		"false":             truth(0),
		"true":              truth(1),
		"0":                 number(0),
		"-1":                number(-1),
		"MaxInt":            number(api.MaxInt),
		"-MaxInt":           number(-api.MaxInt),
		"empty text":        text(""),
		"letter 0":          text("\x00"),
		"letter FFFD":       text("\uFFFD"),
		"last letter":       text("\U0010FFFF"),
		"around the halves": text("\uD7FF\uE000"),
		"empty list":        list(),
		"nil list":          {Kind: api.JList},
		"list":              list(null(), truth(1), number(2), text("x"), list(), table(nil)),
		"empty map":         table([]string{}),
		"nil map":           {Kind: api.JMap},
		"map":               table([]string{"b", "a", ""}, null(), number(1), list()),
		"map, odd keys":     table([]string{"a", "A", "a ", "\x00", "é", "\uFFFD"}, null(), null(), null(), null(), null(), null()),
		"12 deep":           nested(api.MaxDepth-1, number(1)),
		"12 deep, empty":    nested(api.MaxDepth-1, list()),
		"12 deep, map":      nested(api.MaxDepth-2, table([]string{"k"}, text("x"))),
		"12 deep, no keys":  nested(api.MaxDepth-1, table(nil)),
		"long text":         text(strings.Repeat("x", api.MaxBytes+1)),
	}
}

// badOnes: values that are not.
func badOnes() map[string]api.Json {
	return map[string]api.Json{
		"kind 6":            {Kind: 6},
		"kind -1":           {Kind: -1},
		"least kind":        {Kind: math.MinInt},
		"greatest kind":     {Kind: math.MaxInt},
		"null, a number":    {Int: 1},
		"null, a text":      {Text: "x"},
		"null, a key":       {Keys: []string{""}},
		"null, a value":     {List: []api.Json{null()}},
		"truth 2":           truth(2),
		"truth -1":          truth(-1),
		"truth, a text":     {Kind: api.JBool, Text: "x"},
		"truth, a key":      {Kind: api.JBool, Keys: []string{"x"}},
		"truth, a value":    {Kind: api.JBool, List: []api.Json{null()}},
		"past MaxInt":       number(api.MaxInt + 1),
		"past -MaxInt":      number(-api.MaxInt - 1),
		"greatest int":      number(math.MaxInt64),
		"least int":         number(math.MinInt64),
		"number, a text":    {Kind: api.JInt, Text: "1"},
		"number, a key":     {Kind: api.JInt, Keys: []string{"x"}},
		"number, a value":   {Kind: api.JInt, List: []api.Json{null()}},
		"text, byte FF":     text("a\xFF"),
		"text, cut letter":  text("\xE2\x82"),
		"text, a half":      text("\xED\xA0\x80"),
		"text, a low half":  text("\xED\xBF\xBF"),
		"text, too long 0":  text("\xC0\x80"),
		"text, too long /":  text("\xE0\x80\xAF"),
		"text, past 10FFFF": text("\xF4\x90\x80\x80"),
		"text, behind FFFD": text("\uFFFD\xBD"),
		"text, a number":    {Kind: api.JText, Int: 1},
		"text, a key":       {Kind: api.JText, Keys: []string{"x"}},
		"text, a value":     {Kind: api.JText, List: []api.Json{null()}},
		"list, a number":    {Kind: api.JList, Int: 1},
		"list, a text":      {Kind: api.JList, Text: "x"},
		"list, a key":       {Kind: api.JList, Keys: []string{"x"}, List: []api.Json{null()}},
		"list, a bad one":   list(null(), number(math.MaxInt64)),
		"map, a number":     {Kind: api.JMap, Int: 1},
		"map, a text":       {Kind: api.JMap, Text: "x"},
		"map, too few":      table([]string{"a"}),
		"map, too many":     table([]string{"a"}, null(), null()),
		"map, no keys":      table(nil, null()),
		"map, a bad one":    table([]string{"a", "b"}, null(), truth(2)),
		"map, a bad key":    table([]string{"a", "\x80"}, null(), null()),
		"map, twice":        table([]string{"a", "a"}, null(), null()),
		"map, twice apart":  table([]string{"b", "a", "c", "b"}, null(), null(), null(), null()),
		"map, twice empty":  table([]string{"", "x", ""}, null(), null(), null()),
		"13 deep":           nested(api.MaxDepth, number(1)),
		"13 deep, empty":    nested(api.MaxDepth, list()),
		"13 deep, map":      nested(api.MaxDepth-1, table([]string{"k"}, text("x"))),
		"10000 deep":        nested(10000, null()),
		"bad, 12 deep":      nested(api.MaxDepth-1, truth(3)),
	}
}

func TestGood(t *testing.T) {
	for name, j := range goodOnes() {
		if !Good(j) {
			t.Errorf("%s: good, but not told so", name)
		}
	}
	for name, j := range badOnes() {
		if Good(j) {
			t.Errorf("%s: not good, but told so", name)
		}
	}
}

func TestOrderOfBadIsZero(t *testing.T) {
	for name, j := range badOnes() {
		if got := Order(j); !same(got, api.Json{}) {
			t.Errorf("%s: Order told %+v", name, got)
		}
	}
}

func TestOrder(t *testing.T) {
	in := table([]string{"b", "a", "ab", "", "é", "Z", "\U0001F600", "\uFFFD"},
		list(table([]string{"y", "x"}, number(1), number(2))), number(3), null(), truth(1), text("t"), table(nil), number(4), number(5))
	want := table([]string{"", "Z", "a", "ab", "b", "é", "\uFFFD", "\U0001F600"},
		truth(1), table(nil), number(3), null(), list(table([]string{"x", "y"}, number(2), number(1))), text("t"), number(5), number(4))
	if got := Order(in); !same(got, want) {
		t.Errorf("told %+v", got)
	}
	if got := Order(list(number(2), number(1))); !same(got, list(number(2), number(1))) {
		t.Errorf("a list's values changed places: %+v", got)
	}
	for name, j := range goodOnes() {
		if got := Order(j); j.Kind != api.JMap && !same(got, j) {
			t.Errorf("%s: told %+v", name, got)
		}
	}
}

func TestOrderOfMany(t *testing.T) {
	r := rand.New(rand.NewSource(11))
	for range 2000 {
		j := anyGood(r, 5)
		got := Order(j)
		if !Good(got) || !sorted(got) {
			t.Fatalf("%+v: not in order: %+v", j, got)
		}
		if !same(Order(got), got) || !same(Order(shuffled(r, j)), got) {
			t.Fatalf("%+v: another order told otherwise", j)
		}
		if !sameUnordered(j, got) {
			t.Fatalf("%+v: another value: %+v", j, got)
		}
	}
}

// sameUnordered holds two values against each other, key by key.
func sameUnordered(a, b api.Json) bool {
	if a.Kind != api.JMap {
		if a.Kind != b.Kind || a.Int != b.Int || a.Text != b.Text || len(b.Keys) != 0 || len(a.List) != len(b.List) {
			return false
		}
		for i := range a.List {
			if !sameUnordered(a.List[i], b.List[i]) {
				return false
			}
		}
		return true
	}
	values := map[string]api.Json{}
	for i, k := range b.Keys {
		values[k] = b.List[i]
	}
	for i, k := range a.Keys {
		if v, ok := values[k]; !ok || !sameUnordered(a.List[i], v) {
			return false
		}
	}
	return b.Kind == api.JMap && len(a.Keys) == len(b.Keys) && len(b.Keys) == len(b.List)
}
