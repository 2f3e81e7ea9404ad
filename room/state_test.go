package room

import (
	"fmt"
	"math/rand"
	"slices"
	"testing"

	"agora/api"
)

// sound holds that a tree is in order and balanced, and that each node knows its levels.
func sound(t *testing.T, s *state) int {
	t.Helper()
	if s == nil {
		return 0
	}
	left, right := sound(t, s.left), sound(t, s.right)
	if s.levels != max(left, right)+1 || left-right > 1 || right-left > 1 {
		t.Fatalf("%d levels above %d and %d", s.levels, left, right)
	}
	return s.levels
}

// TestTree (14): a state with spots put into it one by one, in any order, and in the place of others, is as a row of spots would be; and so are all those that it came of.
func TestTree(t *testing.T) {
	r := rand.New(rand.NewSource(14))
	for range 50 {
		var trees []*state
		var rows [][]api.Spot
		now, row := (*state)(nil), []api.Spot(nil)
		for at := range r.Intn(120) {
			one := api.Spot{Type: pick(r, "", "a", "b", api.TMember), Key: pick(r, "", fmt.Sprint(r.Intn(60))), At: at}
			now = now.with(one)
			row = slices.DeleteFunc(slices.Clone(row), func(o api.Spot) bool { return o.Type == one.Type && o.Key == one.Key })
			row = ordered(append(row, one))
			trees, rows = append(trees, now), append(rows, row)
		}
		for i, s := range trees {
			sound(t, s)
			equal(t, "tree", s.spots(), rows[i])
			again := grown(rows[i])
			sound(t, again)
			equal(t, "grown", again.spots(), rows[i])
			for _, one := range rows[i] {
				at, ok := s.find(one.Type, one.Key)
				if other, has := again.find(one.Type, one.Key); at != one.At || !ok || other != at || !has {
					t.Fatalf("%+v: %d, %t, %d, %t", one, at, ok, other, has)
				}
			}
			for _, none := range [][2]string{{"c", ""}, {"", "x"}, {"b", "60"}, {api.TMember, "~"}} {
				if at, ok := s.find(none[0], none[1]); at != 0 || ok {
					t.Fatalf("%v: %d, %t", none, at, ok)
				}
			}
		}
	}
}

// TestTreeInOrder (14): spots that rise, or fall, make no long ways.
func TestTreeInOrder(t *testing.T) {
	const n = 1 << 12
	var up, down, inward *state
	for i := range n {
		up = up.with(api.Spot{Key: fmt.Sprintf("%05d", i), At: i})
		down = down.with(api.Spot{Key: fmt.Sprintf("%05d", n-i), At: i})
		inward = inward.with(api.Spot{Key: fmt.Sprintf("%05d", i*(1-i%2*2)+i%2*2*n), At: i})
	}
	for _, s := range []*state{up, down, inward} {
		if levels := sound(t, s); levels > 18 || len(s.spots()) != n {
			t.Errorf("%d levels, %d spots", levels, len(s.spots()))
		}
	}
}

// TestStatesAreShared (14): of what changes nothing, and of several states that come to one of them, no state is made anew.
func TestStatesAreShared(t *testing.T) {
	h := forked(t)
	said := h.put(message(bob), 8)
	if h.ahead[said] != h.behind[8] || h.behind[said] != h.ahead[said] {
		t.Error("a message made a state")
	}
	one := h.put(message(bob), said, 8, 5)
	if h.ahead[one] != h.behind[8] {
		t.Error("what came of a state and an older one is another one")
	}
}
