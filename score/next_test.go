package score

import (
	"fmt"
	"testing"

	"agora/api"
)

// TestChapterTurns (18.2): the chapter's example.
func TestChapterTurns(t *testing.T) {
	b := board(t, 3, 2, 1)
	offer(t, b, 0, "a", "b")
	offer(t, b, 2, "c")
	ends(t, "a, c, b", b, "0 a", "2 c", "0 b")
	tells(t, "behind", b, "")
}

// TestTurns (18.2): frames by one peer, by some, by all; 0 is the next one at first, and behind n - 1.
func TestTurns(t *testing.T) {
	for _, c := range []struct {
		what string
		rows [][]string
		want []string
	}{
		{"one peer, nothing", [][]string{nil}, nil},
		{"one peer", [][]string{{"a", "b", "c"}}, []string{"0 a", "0 b", "0 c"}},
		{"two, nothing", [][]string{nil, nil}, nil},
		{"the first one alone", [][]string{{"a", "b"}, nil}, []string{"0 a", "0 b"}},
		{"the last one alone", [][]string{nil, nil, {"a", "b"}}, []string{"2 a", "2 b"}},
		{"the middle one alone", [][]string{nil, {"a", "b"}, nil}, []string{"1 a", "1 b"}},
		{"one each", [][]string{{"a"}, {"b"}, {"c"}}, []string{"0 a", "1 b", "2 c"}},
		{"two each", [][]string{{"a", "d"}, {"b", "e"}, {"c", "f"}}, []string{"0 a", "1 b", "2 c", "0 d", "1 e", "2 f"}},
		{"fewer and fewer", [][]string{{"a", "d", "f"}, {"b", "e"}, {"c"}}, []string{"0 a", "1 b", "2 c", "0 d", "1 e", "0 f"}},
		{"more and more", [][]string{{"a"}, {"b", "d"}, {"c", "e", "f"}}, []string{"0 a", "1 b", "2 c", "1 d", "2 e", "2 f"}},
		{"a gap", [][]string{nil, {"a", "c"}, nil, {"b", "d", "e"}, nil}, []string{"1 a", "3 b", "1 c", "3 d", "3 e"}},
		{"frames without bytes", [][]string{{"", ""}, {""}}, []string{"0 ", "1 ", "0 "}},
	} {
		b := offered(t, 4, 1, c.rows...)
		ends(t, c.what, b, c.want...)
		tells(t, c.what, b, "", "")
	}
}

// TestTurnStays (18.2): the next one is behind the one that was told last, whoever offered since, and whether it still has frames.
func TestTurnStays(t *testing.T) {
	b := offered(t, 9, 1, []string{"a0"}, []string{"b0"}, nil, []string{"d0"})
	tells(t, "first", b, "0 a0", "1 b0")
	offer(t, b, 0, "a1")
	offer(t, b, 1, "b1")
	offer(t, b, 2, "c0")
	tells(t, "behind 1", b, "2 c0", "3 d0", "0 a1")
	offer(t, b, 0, "a2")
	offer(t, b, 3, "d1")
	tells(t, "behind 0", b, "1 b1", "3 d1")
	offer(t, b, 3, "d2")
	tells(t, "behind 3", b, "0 a2", "3 d2", "")
}

// TestTurnBehindEach (18.2): whoever was told last, the next one is the first behind it, all round, that has frames; if no other one has, it is the same one again.
func TestTurnBehindEach(t *testing.T) {
	for _, n := range []int{1, 2, 3, 5, api.MaxServers} {
		for last := range n {
			for behind := 1; behind <= n; behind++ {
				b := board(t, n, 2, 1)
				offer(t, b, last, "last")
				tells(t, "last", b, fmt.Sprint(last, " last"))
				// Those from behind on to the one that was told last have a frame each.
				var want []string
				for step := behind; step <= n; step++ {
					offer(t, b, (last+step)%n, "x")
					want = append(want, fmt.Sprint((last+step)%n, " x"))
				}
				ends(t, fmt.Sprintf("%d peers, %d last, %d behind", n, last, behind), b, want...)
			}
		}
	}
}

// TestTurnsOfNothing (18.2): where no queue has a frame, nothing is told, and it is still the same one's turn.
func TestTurnsOfNothing(t *testing.T) {
	for _, n := range []int{1, 2, 3, 8} {
		for last := range n {
			for _, asked := range []int{1, 2, n, n + 1} {
				b := board(t, n, 2, 1)
				offer(t, b, last, "last")
				tells(t, "last", b, fmt.Sprint(last, " last"))
				var want []string
				for range asked {
					tells(t, "nothing", b, "")
				}
				for step := range n {
					offer(t, b, step, "x")
					want = append(want, fmt.Sprint((last+1+step)%n, " x"))
				}
				ends(t, fmt.Sprintf("%d peers, %d last, asked %d times", n, last, asked), b, want...)
			}
		}
	}
	// At first it is 0's turn, though nothing was told.
	b := board(t, 3, 1, 1)
	tells(t, "new", b, "", "", "")
	offer(t, b, 2, "c")
	offer(t, b, 0, "a")
	ends(t, "0 first", b, "0 a", "2 c")
}

// TestTurnOfWhoIsOut (18.2, 18.3): the turn goes on behind one who was told last and is out since, and past one whose frames were dropped.
func TestTurnOfWhoIsOut(t *testing.T) {
	b := offered(t, 3, 1, []string{"a0", "a1"}, []string{"b0", "b1"}, []string{"c0", "c1"}, []string{"d0"})
	tells(t, "first", b, "0 a0", "1 b0")
	b.Blame(1, 1)
	tells(t, "behind who is out", b, "2 c0")
	b.Blame(3, 1)
	ends(t, "past who is out", b, "0 a1", "2 c1")
	if err := b.Offer(3, []byte("d1")); err != api.ErrDenied {
		t.Errorf("error %d", err)
	}
	offer(t, b, 0, "a2")
	offer(t, b, 2, "c2")
	ends(t, "refused frames take no turn", b, "0 a2", "2 c2")
}
