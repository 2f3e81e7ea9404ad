package dag

import (
	"math"
	"math/rand"
	"slices"
	"strconv"
	"strings"
	"testing"

	"agora/api"
)

// line is a thing as a test writes it: its name, and the names that it follows and leans on, with blanks between.
type line struct{ name, prev, auth string }

// made tells a graph of lines, all of which must be taken.
func made(t *testing.T, lines ...line) *Graph {
	t.Helper()
	g := New()
	for _, l := range lines {
		mustAdd(t, g, l.name, strings.Fields(l.prev), strings.Fields(l.auth))
	}
	return g
}

func mustAdd(t *testing.T, g *Graph, name string, prev, auth []string) {
	t.Helper()
	n := g.Len()
	if err := g.Add(name, prev, auth); err != api.OK {
		t.Fatalf("%.80q: error %d", name, err)
	}
	if g.Len() != n+1 {
		t.Fatalf("%.80q: %d things became %d", name, n, g.Len())
	}
}

// diamond tells the chapter's example: d follows b and c, which follow a.
func diamond(t *testing.T) *Graph {
	t.Helper()
	return made(t, line{"a", "", ""}, line{"b", "a", ""}, line{"c", "a", ""}, line{"d", "b c", ""})
}

// several tells a graph with two beginnings, edges of one kind, of both and of none, ways of several lengths.
func several(t *testing.T) *Graph {
	t.Helper()
	return made(t,
		line{"a", "", ""},      // 0
		line{"b", "a", "a"},    // 1
		line{"c", "a", ""},     // 2
		line{"x", "", "b"},     // 3
		line{"d", "c b", "x"},  // 4
		line{"y", "x", "c a"},  // 5
		line{"e", "d a", "y"},  // 6
		line{"f", "", "e d b"}, // 7
		line{"g", "f", ""},     // 8
		line{"h", "y e", "g"},  // 9
	)
}

// equal tells whether two rows are the same, where none and an empty one are.
func equal(t *testing.T, what string, got, want []int) {
	t.Helper()
	if !slices.Equal(got, want) {
		t.Errorf("%s: %s, not %s", what, short(got), short(want))
	}
}

// short tells a row in not too many letters.
func short(l []int) string {
	if len(l) <= 20 {
		return strings.Join(texts(l), " ")
	}
	return strings.Join(texts(l[:20]), " ") + " .. of " + strconv.Itoa(len(l))
}

func texts(l []int) []string {
	out := []string{}
	for _, i := range l {
		out = append(out, strconv.Itoa(i))
	}
	return out
}

// is tells whether a graph has these lines, and nothing else, by all calls that tell of single things.
func is(t *testing.T, what string, g *Graph, lines ...line) {
	t.Helper()
	if g.Len() != len(lines) {
		t.Fatalf("%s: %d things, not %d", what, g.Len(), len(lines))
	}
	for i, l := range lines {
		if g.Name(i) != l.name {
			t.Errorf("%s: place %d: name %.80q, not %.80q", what, i, g.Name(i), l.name)
		}
		if at, ok := g.Place(l.name); at != i || !ok {
			t.Errorf("%s: %.80q: place %d, %t", what, l.name, at, ok)
		}
		if got := strings.Join(texts(g.Prev(i)), " "); got != l.prev {
			t.Errorf("%s: %.80q: prev %.80q, not %.80q", what, l.name, got, l.prev)
		}
		if got := strings.Join(texts(g.Auth(i)), " "); got != l.auth {
			t.Errorf("%s: %.80q: auth %.80q, not %.80q", what, l.name, got, l.auth)
		}
	}
}

// nowhere tells places that no graph of n things has.
func nowhere(n int) []int {
	return []int{-1, -2, -n, -n - 1, n, n + 1, 2 * n, math.MaxInt, math.MaxInt - 1, math.MinInt, math.MinInt + 1, 1 << 32, -1 << 32, 1<<32 + 1}
}

// bare tells graphs that New did not make.
func bare() []*Graph { return []*Graph{nil, {}, new(Graph)} }

// snapshot is all that the calls tell of a graph, but for Heads.
type snapshot struct {
	names       []string
	prev, auth  [][]int
	past, chain [][]int
}

func look(g *Graph) snapshot {
	var s snapshot
	for i := range g.Len() {
		s.names = append(s.names, g.Name(i))
		s.prev, s.auth = append(s.prev, g.Prev(i)), append(s.auth, g.Auth(i))
		s.past, s.chain = append(s.past, g.Past([]int{i})), append(s.chain, g.Chain([]int{i}))
	}
	return s
}

// begins tells whether one snapshot is what another one begins with.
func (s snapshot) begins(o snapshot) bool {
	n := len(s.names)
	if len(o.names) < n || !slices.Equal(s.names, o.names[:n]) {
		return false
	}
	for i := range n {
		if !slices.Equal(s.prev[i], o.prev[i]) || !slices.Equal(s.auth[i], o.auth[i]) || !slices.Equal(s.past[i], o.past[i]) || !slices.Equal(s.chain[i], o.chain[i]) {
			return false
		}
	}
	return true
}

// unchanged tells whether a graph is as it was.
func unchanged(t *testing.T, what string, g *Graph, was snapshot) {
	t.Helper()
	now := look(g)
	if !was.begins(now) || len(now.names) != len(was.names) {
		t.Fatalf("%s: %d things became %d, or others", what, len(was.names), len(now.names))
	}
}

// model is a graph as the chapter says it: things with the names that they follow and lean on, and no places.
type model struct {
	names      []string
	prev, auth map[string][]string
}

func newModel() *model {
	return &model{prev: map[string][]string{}, auth: map[string][]string{}}
}

func (m *model) add(name string, prev, auth []string) api.Errno {
	none := func(s string) bool { return !slices.Contains(m.names, s) }
	switch {
	case name == "":
		return api.ErrArg
	case !none(name):
		return api.ErrHave
	case slices.ContainsFunc(prev, none) || slices.ContainsFunc(auth, none):
		return api.ErrMissing
	}
	m.names = append(m.names, name)
	m.prev[name], m.auth[name] = slices.Clone(prev), slices.Clone(auth)
	return api.OK
}

// places tells the places of which something holds.
func (m *model) places(holds func(i int) bool) []int {
	var l []int
	for i := range m.names {
		if holds(i) {
			l = append(l, i)
		}
	}
	return l
}

func (m *model) row(names []string) []int {
	return m.places(func(i int) bool { return slices.Contains(names, m.names[i]) })
}

// way tells whether a way of edges, one at least, leads from one thing to another.
func way(edges map[string][]string, from, to string) bool {
	return slices.ContainsFunc(edges[from], func(s string) bool { return s == to || way(edges, s, to) })
}

func (m *model) back(edges map[string][]string, l []int) []int {
	return m.places(func(i int) bool {
		return slices.ContainsFunc(l, func(j int) bool {
			return j >= 0 && j < len(m.names) && way(edges, m.names[j], m.names[i])
		})
	})
}

func (m *model) heads(kept []bool) []int {
	keep := func(i int) bool { return i < len(kept) && kept[i] }
	return m.places(func(i int) bool {
		followed := slices.ContainsFunc(m.places(keep), func(j int) bool { return slices.Contains(m.prev[m.names[j]], m.names[i]) })
		return keep(i) && !followed
	})
}

func (m *model) missing(names []string) []string {
	var l []string
	for i, name := range names {
		if !slices.Contains(m.names, name) && slices.Index(names, name) == i {
			l = append(l, name)
		}
	}
	return l
}

// some tells up to n of the names, by chance, some of them twice.
func some(r *rand.Rand, names []string, n int) []string {
	var l []string
	for range r.Intn(n + 1) {
		if len(names) > 0 {
			l = append(l, names[r.Intn(len(names))])
		}
	}
	return l
}

// chance tells a graph and its model, of n things.
func chance(t *testing.T, r *rand.Rand, n int) (*Graph, *model) {
	t.Helper()
	g, m := New(), newModel()
	for i := range n {
		name, prev, auth := "n"+strconv.Itoa(r.Intn(1000))+"."+strconv.Itoa(i), some(r, m.names, 3), some(r, m.names, 2)
		mustAdd(t, g, name, prev, auth)
		m.add(name, prev, auth)
	}
	return g, m
}

// row tells up to n places by chance, some of them none.
func row(r *rand.Rand, size, n int) []int {
	var l []int
	for range r.Intn(n + 1) {
		l = append(l, r.Intn(size+4)-2)
	}
	return l
}

// keeps tells by chance which places are kept, sometimes of fewer or more places than there are.
func keeps(r *rand.Rand, size int) []bool {
	kept := make([]bool, max(0, size+r.Intn(7)-3))
	for i := range kept {
		kept[i] = r.Intn(3) > 0
	}
	return kept
}
