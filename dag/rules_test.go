package dag

import (
	"math"
	"math/rand"
	"slices"
	"strconv"
	"strings"
	"testing"

	"agora/api"
)

// TestBareGraphs (R1, 8.1 to 8.3): a nil graph, and one that New did not make, has no things and takes none.
func TestBareGraphs(t *testing.T) {
	for k, g := range bare() {
		for range 2 {
			for _, c := range [][2][]string{{nil, nil}, {{}, {}}, {{"a"}, nil}, {nil, {"a"}}, {{""}, {""}}} {
				for _, name := range []string{"a", "", "b"} {
					if err := g.Add(name, c[0], c[1]); err != api.ErrArg {
						t.Errorf("%d: %q: error %d", k, name, err)
					}
				}
			}
			if g.Len() != 0 {
				t.Errorf("%d: %d things", k, g.Len())
			}
			for _, name := range []string{"a", "", "b"} {
				if at, ok := g.Place(name); at != 0 || ok {
					t.Errorf("%d: %q: place %d, %t", k, name, at, ok)
				}
			}
			for _, i := range append(nowhere(4), 0, 1, 2, 3) {
				if g.Name(i) != "" || len(g.Prev(i))+len(g.Auth(i)) != 0 || len(g.Past([]int{i}))+len(g.Chain([]int{i})) != 0 {
					t.Errorf("%d: something at place %d", k, i)
				}
			}
			if len(g.Past(nil))+len(g.Chain(nil))+len(g.Heads(nil)) != 0 || len(g.Heads(kept(3, 0, 1, 2))) != 0 {
				t.Errorf("%d: a past, a chain or heads", k)
			}
			// All names are none's where there is nothing.
			if got := g.Missing([]string{"b", "a", "", "b"}); !slices.Equal(got, []string{"b", "a", ""}) {
				t.Errorf("%d: missing %q", k, got)
			}
			if len(g.Missing(nil)) != 0 {
				t.Errorf("%d: something of nothing is missing", k)
			}
		}
	}
}

// TestCallsEnd (R1): on a long line, on many edges, on ways that are very many.
func TestCallsEnd(t *testing.T) {
	const n = 20000
	long := New()
	for i := range n {
		var l []string
		if i > 0 {
			l = []string{strconv.Itoa(i - 1)}
		}
		mustAdd(t, long, strconv.Itoa(i), l, l)
	}
	last := []int{n - 1}
	if len(long.Past(last)) != n-1 || len(long.Chain(last)) != n-1 {
		t.Errorf("a past of %d, a chain of %d", len(long.Past(last)), len(long.Chain(last)))
	}
	all := make([]bool, n)
	for i := range all {
		all[i] = true
	}
	equal(t, "heads of a line", long.Heads(all), last)
	// Each thing follows all that were ahead: so many ways that they can't be gone one by one.
	wide := New()
	var names []string
	for i := range 300 {
		mustAdd(t, wide, strconv.Itoa(i), names, names)
		names = append(names, strconv.Itoa(i))
	}
	if len(wide.Past([]int{299})) != 299 || len(wide.Chain([]int{299})) != 299 {
		t.Error("not all that is ahead")
	}
	equal(t, "heads", wide.Heads(all), []int{299})
}

// TestLongRows (R1, 8.1, 8.2): rows of very many names and places.
func TestLongRows(t *testing.T) {
	g := diamond(t)
	names, places := make([]string, 0, 200000), make([]int, 0, 200000)
	for i := range 200000 {
		names, places = append(names, string("abcd"[i%4])), append(places, i%9-3)
	}
	mustAdd(t, g, "e", names, names[:3])
	is(t, "long rows", g, line{"a", "", ""}, line{"b", "0", ""}, line{"c", "0", ""}, line{"d", "1 2", ""}, line{"e", "0 1 2 3", "0 1 2"})
	equal(t, "past", g.Past(places), []int{0, 1, 2, 3})
	if got := g.Missing(append(names, "z", "y", "z")); !slices.Equal(got, []string{"z", "y"}) {
		t.Errorf("missing %.80q", got)
	}
	if err := g.Add("f", append(names, "z"), nil); err != api.ErrMissing || g.Len() != 5 {
		t.Errorf("error %d", err)
	}
}

// TestEmptyListsAreTheSame (R3).
func TestEmptyListsAreTheSame(t *testing.T) {
	a, b := New(), New()
	mustAdd(t, a, "a", nil, nil)
	mustAdd(t, b, "a", []string{}, []string{})
	mustAdd(t, a, "b", nil, []string{"a"})
	mustAdd(t, b, "b", []string{}, []string{"a"})
	unchanged(t, "empty rows", a, look(b))
	if len(a.Past(nil)) != 0 || len(a.Past([]int{})) != 0 || len(a.Heads(nil)) != 0 || len(a.Heads([]bool{})) != 0 || len(a.Missing([]string{})) != 0 {
		t.Error("something of nothing")
	}
}

// roomy tells the same row with something behind its end.
func roomy[T any](l []T, behind T) []T {
	return append(append(make([]T, 0, len(l)+2), l...), behind, behind)[:len(l)]
}

// TestHandedInIsNotChanged (R4): rows, and what lies behind their ends.
func TestHandedInIsNotChanged(t *testing.T) {
	g := several(t)
	for _, l := range [][]string{{}, {"c", "a", "b", "a"}, {"h", "h", "a"}, {"z", "a", "y", "z"}, {""}} {
		names := roomy(l, "m")
		was := slices.Clone(names[:cap(names)])
		g.Missing(names)
		g.Add("n"+strconv.Itoa(len(l)), names, names)
		g.Add("a", names, names)
		g.Add("", names, names)
		if !slices.Equal(names[:cap(names)], was) {
			t.Errorf("names %q became %q", was, names[:cap(names)])
		}
	}
	for _, l := range [][]int{{}, {9, 0, 4, 9}, {3, 2, 1}, {-1, 4, math.MaxInt}} {
		places := roomy(l, 7)
		was := slices.Clone(places[:cap(places)])
		g.Past(places)
		g.Chain(places)
		if !slices.Equal(places[:cap(places)], was) {
			t.Errorf("places %v became %v", was, places[:cap(places)])
		}
	}
	for _, n := range []int{0, 1, 5, g.Len(), g.Len() + 3} {
		for _, truth := range []bool{true, false} {
			l := make([]bool, n)
			for i := range l {
				l[i] = truth != (i%3 == 0)
			}
			l = roomy(l, true)
			was := slices.Clone(l[:cap(l)])
			g.Heads(l)
			if !slices.Equal(l[:cap(l)], was) {
				t.Errorf("kept %v became %v", was, l[:cap(l)])
			}
		}
	}
}

// TestHandedInIsNotKept (R4): what is changed afterwards by who handed it in changes nothing.
func TestHandedInIsNotKept(t *testing.T) {
	g := diamond(t)
	prev, auth := roomy([]string{"a", "b"}, "c"), roomy([]string{"b", "c"}, "d")
	mustAdd(t, g, "e", prev, auth)
	was := look(g)
	for _, l := range [][]string{prev[:cap(prev)], auth[:cap(auth)]} {
		for i := range l {
			l[i] = "d"
		}
	}
	unchanged(t, "names changed", g, was)
	mustAdd(t, g, "f", prev, auth)
	is(t, "one row for two", g, line{"a", "", ""}, line{"b", "0", ""}, line{"c", "0", ""}, line{"d", "1 2", ""}, line{"e", "0 1", "1 2"}, line{"f", "3", "3"})
	b := []byte("name")
	mustAdd(t, g, string(b), nil, nil)
	copy(b, "else")
	if g.Name(6) != "name" {
		t.Errorf("name %q", g.Name(6))
	}
	keep := kept(7, 0, 1, 2)
	heads := g.Heads(keep)
	keep[3] = true
	equal(t, "heads told", heads, []int{1, 2})
}

// spoil writes over a row, and over what lies behind its end.
func spoil[T any](l []T, with T) {
	l = l[:cap(l)]
	for i := range l {
		l[i] = with
	}
}

// TestHandedOutIsNew (R4): who writes over what was told changes nothing, in the graph or in another answer.
func TestHandedOutIsNew(t *testing.T) {
	g := several(t)
	was, all := look(g), kept(10, 0, 1, 2, 3, 4, 5, 6, 7, 8, 9)
	heads := slices.Clone(g.Heads(all))
	for i := range g.Len() {
		for _, tell := range []func() []int{
			func() []int { return g.Prev(i) },
			func() []int { return g.Auth(i) },
			func() []int { return g.Past([]int{i}) },
			func() []int { return g.Chain([]int{i}) },
			func() []int { return g.Heads(all) },
		} {
			one, other := tell(), tell()
			want := slices.Clone(other)
			spoil(one, -7)
			equal(t, "another answer", other, want)
			equal(t, "a later answer", tell(), want)
			// Whoever puts something behind an answer's end writes into nobody's row.
			_ = append(tell(), 5)
			equal(t, "an answer with more", tell(), want)
		}
		// One place may both follow and lean on the same: these are two rows.
		prev, auth := g.Prev(i), g.Auth(i)
		want := slices.Clone(auth)
		spoil(prev, -7)
		equal(t, "auth beside prev", auth, want)
		unchanged(t, "rows written over", g, was)
	}
	names := []string{"m", "a", "n"}
	spoil(g.Missing(names), "x")
	if !slices.Equal(names, []string{"m", "a", "n"}) || !slices.Equal(g.Missing(names), []string{"m", "n"}) {
		t.Errorf("missing of %q: %q", names, g.Missing(names))
	}
	l := []int{9, 4}
	spoil(g.Past(l), 0)
	equal(t, "what was asked", l, []int{9, 4})
	equal(t, "heads", g.Heads(all), heads)
	unchanged(t, "at last", g, was)
}

// TestAskingChangesNothing (R5): asked twice, in whatever order, a graph answers the same; so does one that was made alike.
func TestAskingChangesNothing(t *testing.T) {
	r := rand.New(rand.NewSource(5))
	for range 50 {
		seed := r.Int63()
		g, _ := chance(t, rand.New(rand.NewSource(seed)), 30)
		h, _ := chance(t, rand.New(rand.NewSource(seed)), 30)
		was := look(g)
		for range 30 {
			l, k := row(r, 30, 5), keeps(r, 30)
			names := []string{"z", strings.Repeat("y", r.Intn(3)), g.Name(r.Intn(30)), "z"}
			past, chain, heads, missing := g.Past(l), g.Chain(l), g.Heads(k), g.Missing(names)
			for _, o := range []*Graph{h, g} {
				equal(t, "past", o.Past(l), past)
				equal(t, "chain", o.Chain(l), chain)
				equal(t, "heads", o.Heads(k), heads)
				if !slices.Equal(o.Missing(names), missing) {
					t.Errorf("missing %q, then %q", missing, o.Missing(names))
				}
			}
		}
		unchanged(t, "asked", g, was)
		unchanged(t, "made alike", h, was)
	}
}
