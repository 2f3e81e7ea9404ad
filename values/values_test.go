package values

import (
	"math"
	"reflect"
	"testing"

	"agora/api"
	"agora/canon"
)

// TestMade: what is made is written as it should be.
func TestMade(t *testing.T) {
	for want, j := range map[string]api.Json{
		`""`: Text(""), `"é\n"`: Text("é\n"), `0`: Number(0), `-7`: Number(-7), `9007199254740991`: Number(api.MaxInt),
		`[]`: Texts(nil), `["b","","a","b"]`: Texts([]string{"b", "", "a", "b"}),
	} {
		if b, err := canon.Encode(j); string(b) != want || err != api.OK {
			t.Errorf("%s: %s, error %d", want, b, err)
		}
	}
	for _, n := range []int64{math.MinInt64, math.MaxInt64} {
		if j := Number(n); !reflect.DeepEqual(j, api.Json{Kind: api.JInt, Int: n}) {
			t.Errorf("%+v", j)
		}
	}
	if j := Text("\xff"); j.Text != "\xff" {
		t.Errorf("%+v", j)
	}
}

// TestRowsAreNew (R4): a row that is made into a list is not kept.
func TestRowsAreNew(t *testing.T) {
	row := []string{"a", "b"}
	j := Texts(row)
	row[0] = "spoilt"
	if j.List[0].Text != "a" || len(j.List) != 2 {
		t.Errorf("%+v", j)
	}
}

// TestAt: what stands under keys of a map, in whatever order, and what does not.
func TestAt(t *testing.T) {
	j := api.Json{Kind: api.JMap, Keys: []string{"z", "", "a"}, List: []api.Json{Number(1), Text("x"), Texts([]string{"y"})}}
	for key, want := range map[string]api.Json{"z": Number(1), "": Text("x"), "a": Texts([]string{"y"}), "b": {}, "A": {}, "zz": {}} {
		if got := At(j, key); !reflect.DeepEqual(got, want) {
			t.Errorf("%q: %+v", key, got)
		}
	}
	for key, want := range map[string]string{"z": "", "": "x", "a": "", "b": ""} {
		if got := TextAt(j, key); got != want {
			t.Errorf("%q: %q", key, got)
		}
	}
}

// TestAtOfWhatIsNotGood: keys of what is no map, keys without values, keys that stand twice, values that are none.
func TestAtOfWhatIsNotGood(t *testing.T) {
	one, keys := []api.Json{Text("x")}, []string{"b", "a"}
	for _, j := range []api.Json{{}, Text("a"), {Kind: api.JList, Keys: keys, List: one}, {Kind: 77, Keys: keys, List: one}, {Kind: api.JMap, Keys: keys}, {Kind: api.JMap, Keys: keys, List: one}} {
		if got, s := At(j, "a"), TextAt(j, "a"); !reflect.DeepEqual(got, api.Json{}) || s != "" {
			t.Errorf("%+v: %+v, %q", j, got, s)
		}
	}
	twice := api.Json{Kind: api.JMap, Keys: []string{"a", "a"}, List: []api.Json{Text("x"), Text("y")}}
	if s := TextAt(twice, "a"); s != "x" {
		t.Errorf("%q", s)
	}
	lettered := api.Json{Kind: api.JMap, Keys: []string{"a"}, List: []api.Json{{Kind: api.JInt, Text: "x"}}}
	if s := TextAt(lettered, "a"); s != "" {
		t.Errorf("%q", s)
	}
}
