package dag

import (
	"math/rand"
	"slices"
	"strconv"
	"strings"
	"testing"

	"agora/api"
)

// TestNew (8.1): a graph without things, and each one its own.
func TestNew(t *testing.T) {
	g, h := New(), New()
	if g == nil || h == nil || g == h {
		t.Fatal("no graph, or one graph twice")
	}
	is(t, "a new graph", g)
	mustAdd(t, g, "a", nil, nil)
	is(t, "another graph", h)
	if _, ok := h.Place("a"); ok || h.Add("b", []string{"a"}, nil) != api.ErrMissing {
		t.Error("the other graph's thing")
	}
}

// TestAdd (8.1): places as things came; rows rising, whatever the order and however often a name stands in them.
func TestAdd(t *testing.T) {
	for what, c := range map[string]struct{ lines, want []line }{
		"one":           {[]line{{"a", "", ""}}, []line{{"a", "", ""}}},
		"unlinked":      {[]line{{"b", "", ""}, {"a", "", ""}}, []line{{"b", "", ""}, {"a", "", ""}}},
		"prev alone":    {[]line{{"a", "", ""}, {"b", "a", ""}}, []line{{"a", "", ""}, {"b", "0", ""}}},
		"auth alone":    {[]line{{"a", "", ""}, {"b", "", "a"}}, []line{{"a", "", ""}, {"b", "", "0"}}},
		"both the same": {[]line{{"a", "", ""}, {"b", "a", "a"}}, []line{{"a", "", ""}, {"b", "0", "0"}}},
		"both unlike":   {[]line{{"a", "", ""}, {"b", "", ""}, {"c", "b", "a"}}, []line{{"a", "", ""}, {"b", "", ""}, {"c", "1", "0"}}},
		"not in order": {
			[]line{{"a", "", ""}, {"b", "", ""}, {"c", "", ""}, {"d", "c a b", "b c a"}},
			[]line{{"a", "", ""}, {"b", "", ""}, {"c", "", ""}, {"d", "0 1 2", "0 1 2"}},
		},
		"names the other way round": {
			[]line{{"c", "", ""}, {"b", "", ""}, {"a", "", ""}, {"d", "a b c", "a c"}},
			[]line{{"c", "", ""}, {"b", "", ""}, {"a", "", ""}, {"d", "0 1 2", "0 2"}},
		},
		"twice at once":  {[]line{{"a", "", ""}, {"b", "a a", "a a a"}}, []line{{"a", "", ""}, {"b", "0", "0"}}},
		"twice far away": {[]line{{"a", "", ""}, {"b", "", ""}, {"c", "a b a", "b a b"}}, []line{{"a", "", ""}, {"b", "", ""}, {"c", "0 1", "0 1"}}},
		"twice in one": {
			[]line{{"a", "", ""}, {"b", "", ""}, {"c", "b b", "a b"}, {"d", "a", "c c b"}},
			[]line{{"a", "", ""}, {"b", "", ""}, {"c", "1", "0 1"}, {"d", "0", "1 2"}},
		},
		"an edge beside a longer way": {
			[]line{{"a", "", ""}, {"b", "a", ""}, {"c", "b a", ""}},
			[]line{{"a", "", ""}, {"b", "0", ""}, {"c", "0 1", ""}},
		},
	} {
		is(t, what, made(t, c.lines...), c.want...)
	}
}

// TestNames (8.1): any name that is not empty, and no two are the same but those of the same bytes.
func TestNames(t *testing.T) {
	names := []string{" ", "a", "A", "a ", " a", "aa", "\x00", "a\x00", "\xff", "\xff\xfe", "\ufffd", "é", "e\u0301", "0", "1", "-1", "$AAAAAAAAAAE", strings.Repeat("x", 1<<16)}
	g := New()
	var want []line
	for i, name := range names {
		mustAdd(t, g, name, names[:i], names[:i])
		below := []int{}
		for j := range i {
			below = append(below, j)
		}
		row := strings.Join(texts(below), " ")
		want = append(want, line{name, row, row})
	}
	is(t, "all names", g, want...)
}

// TestAddWrong (8.1): an empty name, one that is there, one of prev or auth that is none's; the first of these is told, and nothing changes.
func TestAddWrong(t *testing.T) {
	a, z, both := []string{"a"}, []string{"z"}, []string{"a", "z"}
	for what, c := range map[string]struct {
		name       string
		prev, auth []string
		want       api.Errno
	}{
		"no name":                     {"", nil, nil, api.ErrArg},
		"no name, with rows":          {"", a, a, api.ErrArg},
		"no name, missing":            {"", z, z, api.ErrArg},
		"no name, follows none":       {"", []string{""}, nil, api.ErrArg},
		"there":                       {"a", nil, nil, api.ErrHave},
		"there, the last":             {"h", nil, nil, api.ErrHave},
		"there, with the same rows":   {"b", a, a, api.ErrHave},
		"there, with other rows":      {"b", nil, []string{"c"}, api.ErrHave},
		"there, missing":              {"a", z, z, api.ErrHave},
		"there, follows itself":       {"a", a, nil, api.ErrHave},
		"missing prev":                {"n", z, nil, api.ErrMissing},
		"missing auth":                {"n", nil, z, api.ErrMissing},
		"missing both":                {"n", z, z, api.ErrMissing},
		"missing prev, auth there":    {"n", z, a, api.ErrMissing},
		"missing auth, prev there":    {"n", a, z, api.ErrMissing},
		"missing prev behind another": {"n", both, a, api.ErrMissing},
		"missing auth behind another": {"n", a, both, api.ErrMissing},
		"missing prev ahead":          {"n", []string{"z", "a"}, nil, api.ErrMissing},
		"missing auth between":        {"n", nil, []string{"a", "z", "b"}, api.ErrMissing},
		"an empty one in prev":        {"n", []string{""}, nil, api.ErrMissing},
		"an empty one in auth":        {"n", a, []string{"a", ""}, api.ErrMissing},
		"itself in prev":              {"n", []string{"n"}, nil, api.ErrMissing},
		"itself in auth":              {"n", a, []string{"a", "n"}, api.ErrMissing},
		"another letter":              {"n", []string{"A"}, nil, api.ErrMissing},
		"a place for a name":          {"n", []string{"0"}, nil, api.ErrMissing},
	} {
		g := several(t)
		was := look(g)
		if err := g.Add(c.name, c.prev, c.auth); err != c.want {
			t.Errorf("%s: error %d, not %d", what, err, c.want)
		}
		unchanged(t, what, g, was)
		if at, ok := g.Place("n"); at != 0 || ok {
			t.Errorf("%s: n has place %d", what, at)
		}
		mustAdd(t, g, "n", []string{"h"}, []string{"a"})
		if at, ok := g.Place("n"); at != len(was.names) || !ok {
			t.Errorf("%s: then n has place %d, %t", what, at, ok)
		}
	}
}

// TestAddWhenThere (8.1): what was missing may come, and then be followed.
func TestAddWhenThere(t *testing.T) {
	g := New()
	if err := g.Add("b", []string{"a"}, []string{"a"}); err != api.ErrMissing {
		t.Fatalf("error %d", err)
	}
	mustAdd(t, g, "a", nil, nil)
	mustAdd(t, g, "b", []string{"a"}, []string{"a"})
	if err := g.Add("b", nil, nil); err != api.ErrHave {
		t.Fatalf("error %d", err)
	}
	is(t, "at last", g, line{"a", "", ""}, line{"b", "0", "0"})
}

// TestNoPlace (8.1): of what is no place nothing is told.
func TestNoPlace(t *testing.T) {
	for _, g := range []*Graph{New(), diamond(t), several(t)} {
		for _, i := range nowhere(g.Len()) {
			if g.Name(i) != "" || len(g.Prev(i)) != 0 || len(g.Auth(i)) != 0 {
				t.Errorf("place %d of %d: %q, %v, %v", i, g.Len(), g.Name(i), g.Prev(i), g.Auth(i))
			}
		}
		for _, name := range []string{"", "z", "A", "aa", "a ", "0", "1", "a b"} {
			if at, ok := g.Place(name); at != 0 || ok {
				t.Errorf("%q: place %d, %t", name, at, ok)
			}
		}
	}
}

// TestMissing (8.1): names that are none's, in their own order, each once.
func TestMissing(t *testing.T) {
	g := several(t)
	for _, c := range []struct{ names, want []string }{
		{nil, nil},
		{[]string{}, nil},
		{[]string{"a"}, nil},
		{[]string{"a", "h", "a", "x"}, nil},
		{[]string{"z"}, []string{"z"}},
		{[]string{""}, []string{""}},
		{[]string{"z", "a", "y", "z"}, []string{"z"}},
		{[]string{"z", "m", "n", "m"}, []string{"z", "m", "n"}},
		{[]string{"n", "m", "z", "z", "n"}, []string{"n", "m", "z"}},
		{[]string{"a", "m", "", "b", "", "A", "m"}, []string{"m", "", "A"}},
		{[]string{"0", "9", "a ", "\xff", "\ufffd", "\xff"}, []string{"0", "9", "a ", "\xff", "\ufffd"}},
	} {
		if got := g.Missing(c.names); !slices.Equal(got, c.want) {
			t.Errorf("%q: missing %q, not %q", c.names, got, c.want)
		}
	}
	mustAdd(t, g, "m", nil, nil)
	if got := g.Missing([]string{"z", "m", "n", "m"}); !slices.Equal(got, []string{"z", "n"}) {
		t.Errorf("then missing %q", got)
	}
	if g.Len() != 11 {
		t.Errorf("%d things", g.Len())
	}
}

// TestAddModel (8.1): chance calls, right and wrong, answer as the chapter's words gone through one by one.
func TestAddModel(t *testing.T) {
	r := rand.New(rand.NewSource(81))
	known := []string{""}
	for i := range 12 {
		known = append(known, strconv.Itoa(i))
	}
	for range 300 {
		g, m := New(), newModel()
		for range 50 {
			name, prev, auth := known[r.Intn(len(known))], some(r, m.names, 4), some(r, m.names, 4)
			if r.Intn(4) == 0 {
				prev = append(prev, known[r.Intn(len(known))])
			}
			if r.Intn(4) == 0 {
				auth = append(some(r, known, 1), auth...)
			}
			got, want := g.Add(name, prev, auth), m.add(name, prev, auth)
			if got != want || g.Len() != len(m.names) {
				t.Fatalf("%q, prev %q, auth %q: error %d, not %d; %d things, not %d", name, prev, auth, got, want, g.Len(), len(m.names))
			}
			ask := some(r, known, 8)
			if got, want := g.Missing(ask), m.missing(ask); !slices.Equal(got, want) {
				t.Fatalf("%q: missing %q, not %q", ask, got, want)
			}
		}
		var want []line
		for _, name := range m.names {
			want = append(want, line{name, strings.Join(texts(m.row(m.prev[name])), " "), strings.Join(texts(m.row(m.auth[name])), " ")})
		}
		is(t, "chance", g, want...)
	}
}
